/-
  The program's LedgerPay answers as the model's for every ledger and payment, writes into no argument, keeps no part of one, and what it returns is the caller's own: the law FnExactLedgerPay returns true.
  Conditions: none but the statement's own. Proved: Rows.FnExactLedgerPaySaid.
-/
import Derived.Test.YtgiilckfenemmabRows
import Derived.WalkKit
import Derived.ProofKit
import Derived.OpenShut
import Derived.ShutString
import Derived.ChangeOld
import Derived.Below
import Derived.Carry
import Derived.Lib.SmallJoins
import Derived.Test.YtgiilckfenemmabFp
import Derived.Test.YtgiilckfenemmabBase
import Derived.Test.YtgiilckfenemmabField
import Derived.Test.YtgiilckfenemmabSl
import Derived.Test.YtgiilckfenemmabTri
import Derived.Test.YtgiilckfenemmabFr
import Derived.Test.YtgiilckfenemmabFrl
import Derived.Test.YtgiilckfenemmabFrc
import Derived.Test.YtgiilckfenemmabFrd
import Derived.Test.YtgiilckfenemmabFre
import Derived.Test.YtgiilckfenemmabFrf
import Derived.Test.YtgiilckfenemmabDraw
import Derived.Test.YtgiilckfenemmabFrg
import Derived.Test.YtgiilckfenemmabLg
import Derived.Test.YtgiilckfenemmabFs
import Derived.Test.YtgiilckfenemmabCat
import Derived.Test.YtgiilckfenemmabLed
import Derived.Test.YtgiilckfenemmabRev
import Derived.Test.YtgiilckfenemmabLee
import Derived.Test.YtgiilckfenemmabLef
import Derived.Test.YtgiilckfenemmabLeg
import Derived.Test.YtgiilckfenemmabLeh
import Derived.Test.YtgiilckfenemmabLei
import Derived.Test.YtgiilckfenemmabOpl
import Derived.Test.YtgiilckfenemmabLex
import Derived.Test.YtgiilckfenemmabLey
import Derived.Test.YtgiilckfenemmabLez
namespace Go.Proofs.Ytgiilckfenemmab.fnExactLedgerPay
open Go.ChangeShapes Go.WideShapes Go.ChangeAt Go.RowKit
open Go.ChangeMaps (open_string shut_string)
set_option linter.unusedVariables false
set_option linter.unusedSimpArgs false

theorem own : ownKnob Try.prog.godebug = none := by kernel_rfl
theorem laidOut : laidOutB Try.prog = true := by kernel_rfl

set_option maxHeartbeats 8000000 in
set_option maxRecDepth 100000 in
theorem walk (a0_0 a0_1 : Int) (b0 : Option Addr) (len0 cap0 : Nat) (z0 : List (Int × Int)) (a1_0 : Int) (a1_1 : Int) (w : World) (w0 : len0 ≤ cap0 ∧ cap0 ≤ maxLen ∧ Sf w b0 len0 z0) (w1_0 : (Lit.int .i64 a1_0).wf = true) (w1_1 : (Lit.int .i64 a1_1).wf = true) :
    Calls Try.prog 5 #[.agg #[.int .i64 a0_0, .int .i64 a0_1, .slice b0 len0 cap0], .agg #[.int .i64 a1_0, .int .i64 a1_1]] w fun e w' => e = .returned (.bool true) ∧ Below w.heap.size w w' := by
  obtain ⟨wcap, wlim, wrow⟩ := w0
  obtain ⟨v1, hv1, Y1, BV1, TV1⟩ := led_box w a0_0 a0_1 b0 len0 cap0 26
  obtain ⟨w1, hw1, Z1, B1, T1⟩ := duo_box v1 a1_0 a1_1 23
  rw [Y1] at T1
  have H := Lib.hid wrow
  have BB := Lib.hid (BV1.trans (B1.mono BV1.size))
  have TT := Lib.hid (TV1.below B1 (by omega))
  have FF := Lib.hid T1
  clear BV1 TV1 B1 T1 wrow w1_0 w1_1
  obtain ⟨c0, c1, c2, -, -, -⟩ := led_at TT.out
  by_cases hq : 1048576 < len0
  · have S := Lib.hid (laws_szLedger a0_0 a0_1 b0 len0 cap0 1048576 w1 (by omega) (by omega) (by omega))
    rw [show max (-1) (1048576 - (len0 : Int)) = -1 by omega] at S
    go_enter Try.func5, Try.ntmps5
    go_wp2_with fail
    refine S.out.mono ?_
    rintro e w2 ⟨rfl, b2⟩
    have B2 := Lib.hid (BB.out.trans (b2.mono BB.out.size))
    clear b2
    go_wp2
    go_ret
    exact ⟨rfl, B2.out⟩
  have hm : len0 ≤ 1048576 := by omega
  have S := Lib.hid (laws_szLedger a0_0 a0_1 b0 len0 cap0 1048576 w1 (by omega) (by omega) (by omega))
  rw [show max (-1) (1048576 - (len0 : Int)) = 1048576 - (len0 : Int) by omega] at S
  have hq0 : (len0 : Int) ≤ 1048576 := by omega
  have m1 : (Fr.pB a0_0 a0_1 z0 a1_0 a1_1 != Fr.pB a0_0 a0_1 z0 a1_0 a1_1) = false := by simp
  have LL : (Fr.pL a0_0 a0_1 z0 a1_0 a1_1).length ≤ 1048577 := by
    have := H.out.len
    unfold Fr.pL
    repeat' split
    all_goals first | (simp; done) | (simp; omega)
  go_enter Try.func5, Try.ntmps5
  go_wp2_with fail
  refine S.out.mono ?_
  rintro e w2 ⟨rfl, b2⟩
  have B2 := Lib.hid (BB.out.trans (b2.mono BB.out.size))
  have T2 := Lib.hid (TT.out.below b2 (cell_lt c0))
  have F2 := Lib.hid (Tri.below FF.out b2 (cell_lt (duo_at FF.out).1))
  clear S b2 TT FF BB c0 c1 c2 hv1 hw1
  have T := T2
  have F := F2
  have B := B2
  have s2 : w.heap.size + 1 < w2.heap.size := cell_lt (duo_at F2.out).1
  clear T2 F2 B2
  obtain ⟨p0, p1, p2, -, -, -⟩ := led_at T.out
  obtain ⟨p3, p4, -, -⟩ := duo_at F.out
  have S1 := Lib.hid (show Hid (Below w2.heap.size w2 w2.drew) ∧ w2.drew.cell? ⟨w.heap.size, 0, none⟩ = some (.int .i64 a0_0) ∧ w2.drew.cell? ⟨w.heap.size, 1, none⟩ = some (.int .i64 a0_1) ∧ w2.drew.cell? ⟨w.heap.size, 2, none⟩ = some (.slice b0 len0 cap0) ∧ w2.drew.cell? ⟨w.heap.size + 1, 0, none⟩ = some (.int .i64 a1_0) ∧ w2.drew.cell? ⟨w.heap.size + 1, 1, none⟩ = some (.int .i64 a1_1) from ⟨Lib.hid (Below.refl _ _).drew, p0, p1, p2, p3, p4⟩)
  have HB := Lib.hid (show w.heap.size < w2.heap.size ∧ w.heap.size < w2.heap.size ∧ w.heap.size < w2.heap.size ∧ w.heap.size + 1 < w2.heap.size ∧ w.heap.size + 1 < w2.heap.size by omega)
  clear p0 p1 p2 p3 p4
  go_wp2_with fail
  go_cut [6, 7] (fun p q W => LedAt w2 (Fr.pC a0_0 a0_1 z0 a1_0 a1_1) (Fr.pD a0_0 a0_1 z0 a1_0 a1_1) (Fr.pL a0_0 a0_1 z0 a1_0 a1_1) (Fr.pB a0_0 a0_1 z0 a1_0 a1_1) p q W)
  case first =>
    go_region_held3 (fun w' : World => Hid (Below w2.heap.size w2 w') ∧ w'.cell? ⟨w.heap.size, 0, none⟩ = some (.int .i64 a0_0) ∧ w'.cell? ⟨w.heap.size, 1, none⟩ = some (.int .i64 a0_1) ∧ w'.cell? ⟨w.heap.size, 2, none⟩ = some (.slice b0 len0 cap0) ∧ w'.cell? ⟨w.heap.size + 1, 0, none⟩ = some (.int .i64 a1_0) ∧ w'.cell? ⟨w.heap.size + 1, 1, none⟩ = some (.int .i64 a1_1)) (first | exact S1.out | exact reg5_call (by assumption) b25 | exact reg5_call (by assumption) b26 | exact reg5_call (by assumption) b27 | exact reg5_call (by assumption) (bel_box _ _) | exact reg5_re HB P7 (by assumption) | exact reg5_set HB (by assumption) ((((Below.refl _ _).setCell (by first | omega | (simp; done) | (simp; omega)) _).setCell (by first | omega | (simp; done) | (simp; omega)) _).setCell (by first | omega | (simp; done) | (simp; omega)) _)) (first | (go_at_call 9; refine (laws_toLedger _ _ _ _ _ z0 _ ((H.out.below B.out).below (reg5_b (W0 := w2) (by assumption))) hm).mono ?_; rintro e x25 ⟨a25, n25, k25, rfl, o25, b25⟩; have O25 := Lib.hid o25.sf; have l25 : n25 ≤ 1048576 := (by rw [← o25.len, H.out.len]; exact hm); clear o25; (first | have D5 := Tru.now b25 | have D5 := Tru.nowD b25 | have D5 := Tru.more (by assumption) b25 | skip); (try (have d0 := D5.c0; have d1 := D5.c1; have d2 := D5.c2; have d3 := D5.f0; have d4 := D5.f1; have d5 := D5.f2)); have y25 := (reg5_call (W0 := w2) (by assumption) b25).1.out.size; have z25 := b25.size; (try simp at z25)) | (go_at_call 16; refine (laws_toFrac _ _ _).mono ?_; rintro e x26 ⟨rfl, b26⟩; (first | have D5 := Tru.now b26 | have D5 := Tru.nowD b26 | have D5 := Tru.more (by assumption) b26 | skip); (try (have d0 := D5.c0; have d1 := D5.c1; have d2 := D5.c2; have d3 := D5.f0; have d4 := D5.f1; have d5 := D5.f2)); have y26 := (reg5_call (W0 := w2) (by assumption) b26).1.out.size; have z26 := b26.size; (try simp at z26)) | (go_at_call 15; refine (spec_LedgerPay _ _ _ _ _ z0 _ _ _ (by first | exact O25.out | exact O25.out.below b26 | exact O25.out.below (bel_box _ _) | exact (O25.out.below b26).below (bel_box _ _) | exact (O25.out.below (bel_box _ _)).below b26) l25).mono ?_; rintro e x27 ⟨a7, n7, k7, rfl, o7, b27⟩; have P7 := Lib.hid ((reg5_call (W0 := w2) (by assumption) b27).1.out); have q7 := reg5_sz (W0 := w2) (by assumption) b27; (first | have D5 := Tru.now b27 | have D5 := Tru.nowD b27 | have D5 := Tru.more (by assumption) b27 | skip); (try (have d0 := D5.c0; have d1 := D5.c1; have d2 := D5.c2; have d3 := D5.f0; have d4 := D5.f1; have d5 := D5.f2)); have y27 := (reg5_call (W0 := w2) (by assumption) b27).1.out.size; have z27 := b27.size; (try simp at z27)))
    all_goals
      go_wp2
      go_meet
      first | exact LedAt.new P7.out o7 q7 (Nat.le_refl _) | exact LedAt.set P7.out D5 (by first | omega | (simp; done) | (simp; omega)) o7 q7 (Nat.le_refl _) (by first | omega | (simp; done) | (simp; omega))
  case rest =>
    obtain ⟨g6, a6, n6, k6, lo6, hi6, rfl, rfl, b6, t6, hg6, o6, hl6, hh6, hx6⟩ := hcut
    rename World => V6
    have s6 : w2.heap.size ≤ V6.heap.size := b6.size
    have g6l : g6 < V6.heap.size := t6.lt
    have E6 := Lib.hid t6
    have O6 := Lib.hid o6
    have l6 : n6 ≤ 1048577 := by rw [← o6.len]; exact LL
    replace T := Lib.hid (Tri.below T.out b6 (cell_lt (led_at T.out).1))
    replace F := Lib.hid (Tri.below F.out b6 (cell_lt (duo_at F.out).1))
    replace B := Lib.hid (B.out.trans (b6.mono B.out.size))
    clear b6 t6 o6 S1 HB
    obtain ⟨c0, c1, c2, -, -, -⟩ := led_at T.out
    go_wp2_with fail
    refine (laws_toLedger _ _ _ _ _ z0 _ (H.out.below B.out) hm).mono ?_
    rintro e w8 ⟨a8, n8, k8, rfl, o8, b8⟩
    have s8 : V6.heap.size ≤ w8.heap.size := b8.size
    have O8 := Lib.hid o8
    have l8 : n8 ≤ 1048576 := by rw [← o8.len, H.out.len]; exact hm
    replace T := Lib.hid (Tri.below T.out b8 (cell_lt (led_at T.out).1))
    replace F := Lib.hid (Tri.below F.out b8 (cell_lt (duo_at F.out).1))
    replace E6 := Lib.hid (E6.out.more b8)
    replace O6 := Lib.hid (O6.out.below b8)
    replace B := Lib.hid (B.out.trans (b8.mono B.out.size))
    clear b8 o8 c0 c1 c2
    obtain ⟨w9, hw9, z9, b9, t9⟩ := led_box w8 a0_0 a0_1 a8 n8 k8 32
    have s9 : w8.heap.size < w9.heap.size := by omega
    have Q9 := Lib.hid (Tru.of_tri t9)
    replace T := Lib.hid (Tri.below T.out b9 (cell_lt (led_at T.out).1))
    replace F := Lib.hid (Tri.below F.out b9 (cell_lt (duo_at F.out).1))
    replace E6 := Lib.hid (E6.out.more b9)
    replace O6 := Lib.hid (O6.out.below b9)
    replace O8 := Lib.hid (O8.out.below b9)
    replace B := Lib.hid (B.out.trans (b9.mono B.out.size))
    have S8 := Lib.hid O8.out.sf
    clear b9 t9 z9
    have p0 := Q9.out.c0
    have p1 := Q9.out.c1
    have p2 := Q9.out.c2
    obtain ⟨p3, p4, -, -⟩ := duo_at F.out
    have S1 := Lib.hid (show Hid (Below w9.heap.size w9 w9.drew) ∧ w9.drew.cell? ⟨w8.heap.size, 0, none⟩ = some (.int .i64 a0_0) ∧ w9.drew.cell? ⟨w8.heap.size, 1, none⟩ = some (.int .i64 a0_1) ∧ w9.drew.cell? ⟨w8.heap.size, 2, none⟩ = some (.slice a8 n8 k8) ∧ w9.drew.cell? ⟨w.heap.size + 1, 0, none⟩ = some (.int .i64 a1_0) ∧ w9.drew.cell? ⟨w.heap.size + 1, 1, none⟩ = some (.int .i64 a1_1) from ⟨Lib.hid (Below.refl _ _).drew, p0, p1, p2, p3, p4⟩)
    have HB := Lib.hid (show w8.heap.size < w9.heap.size ∧ w8.heap.size < w9.heap.size ∧ w8.heap.size < w9.heap.size ∧ w.heap.size + 1 < w9.heap.size ∧ w.heap.size + 1 < w9.heap.size by omega)
    clear p0 p1 p2 p3 p4
    go_wp2_with fail
    go_cut [9, 10] (fun p q W => LedAt w9 (Fr.pC a0_0 a0_1 z0 a1_0 a1_1) (Fr.pD a0_0 a0_1 z0 a1_0 a1_1) (Fr.pL a0_0 a0_1 z0 a1_0 a1_1) (Fr.pB a0_0 a0_1 z0 a1_0 a1_1) p q W)
    case first =>
      go_region_held3 (fun w' : World => Hid (Below w9.heap.size w9 w') ∧ w'.cell? ⟨w8.heap.size, 0, none⟩ = some (.int .i64 a0_0) ∧ w'.cell? ⟨w8.heap.size, 1, none⟩ = some (.int .i64 a0_1) ∧ w'.cell? ⟨w8.heap.size, 2, none⟩ = some (.slice a8 n8 k8) ∧ w'.cell? ⟨w.heap.size + 1, 0, none⟩ = some (.int .i64 a1_0) ∧ w'.cell? ⟨w.heap.size + 1, 1, none⟩ = some (.int .i64 a1_1)) (first | exact S1.out | exact reg5_call (by assumption) b25 | exact reg5_call (by assumption) b26 | exact reg5_call (by assumption) (bel_box _ _) | exact reg5_re HB P7 (by assumption) | exact reg5_set HB (by assumption) ((((Below.refl _ _).setCell (by first | omega | (simp; done) | (simp; omega)) _).setCell (by first | omega | (simp; done) | (simp; omega)) _).setCell (by first | omega | (simp; done) | (simp; omega)) _)) (first | (go_at_call 16; refine (laws_toFrac _ _ _).mono ?_; rintro e x25 ⟨rfl, b25⟩; (first | have D5 := Tru.now b25 | have D5 := Tru.nowD b25 | have D5 := Tru.more (by assumption) b25 | skip); (try (have d0 := D5.c0; have d1 := D5.c1; have d2 := D5.c2; have d3 := D5.f0; have d4 := D5.f1; have d5 := D5.f2)); have y25 := (reg5_call (W0 := w9) (by assumption) b25).1.out.size; have z25 := b25.size; (try simp at z25)) | (go_at_call 17; refine (impl_LedgerPay _ _ _ _ _ z0 _ _ _ (S8.out.below (reg5_b (W0 := w9) (by assumption))) l8).mono ?_; rintro e x26 ⟨a7, n7, k7, rfl, o7, b26⟩; have P7 := Lib.hid ((reg5_call (W0 := w9) (by assumption) b26).1.out); have q7 := reg5_sz (W0 := w9) (by assumption) b26; (first | have D5 := Tru.now b26 | have D5 := Tru.nowD b26 | have D5 := Tru.more (by assumption) b26 | skip); (try (have d0 := D5.c0; have d1 := D5.c1; have d2 := D5.c2; have d3 := D5.f0; have d4 := D5.f1; have d5 := D5.f2)); have y26 := (reg5_call (W0 := w9) (by assumption) b26).1.out.size; have z26 := b26.size; (try simp at z26)))
      all_goals
        go_wp2
        go_meet
        first | exact LedAt.new P7.out o7 q7 (Nat.le_refl _) | exact LedAt.set P7.out D5 (by first | omega | (simp; done) | (simp; omega)) o7 q7 (Nat.le_refl _) (by first | omega | (simp; done) | (simp; omega))
    case rest =>
      obtain ⟨g10, a10, n10, k10, lo10, hi10, rfl, rfl, b10, t10, hg10, o10, hl10, hh10, hx10⟩ := hcut
      rename World => V10
      have s10 : w9.heap.size ≤ V10.heap.size := b10.size
      have g10l : g10 < V10.heap.size := t10.lt
      have E10 := Lib.hid t10
      have O10 := Lib.hid o10
      have l10 : n10 ≤ 1048577 := by rw [← o10.len]; exact LL
      replace T := Lib.hid (Tri.below T.out b10 (cell_lt (led_at T.out).1))
      replace F := Lib.hid (Tri.below F.out b10 (cell_lt (duo_at F.out).1))
      replace E6 := Lib.hid (E6.out.more b10)
      replace O6 := Lib.hid (O6.out.below b10)
      replace O8 := Lib.hid (O8.out.below b10)
      replace Q9 := Lib.hid (Q9.out.more b10)
      replace B := Lib.hid (B.out.trans (b10.mono B.out.size))
      clear b10 t10 o10 S1 HB S8
      have p0 := E10.out.c0
      have p1 := E10.out.c1
      have p2 := E10.out.c2
      have q0 := E6.out.c0
      have q1 := E6.out.c1
      have q2 := E6.out.c2
      go_wp2_with fail
      refine (laws_eqLedger _ _ _ _ _ _ _ _ (Fr.pL a0_0 a0_1 z0 a1_0 a1_1) _ O10.out.sf O6.out.sf l10).mono ?_
      rintro e u11 ⟨rfl, b11⟩
      have s11 := b11.size
      clear p0 p1 p2 q0 q1 q2
      replace T := Lib.hid (Tri.below T.out b11 (cell_lt (led_at T.out).1))
      replace F := Lib.hid (Tri.below F.out b11 (cell_lt (duo_at F.out).1))
      replace E6 := Lib.hid (E6.out.more b11)
      replace O6 := Lib.hid (O6.out.below b11)
      replace O8 := Lib.hid (O8.out.below b11)
      replace Q9 := Lib.hid (Q9.out.more b11)
      replace E10 := Lib.hid (E10.out.more b11)
      replace O10 := Lib.hid (O10.out.below b11)
      replace B := Lib.hid (B.out.trans (b11.mono B.out.size))
      clear b11
      obtain ⟨c0, c1, c2, -, -, -⟩ := led_at T.out
      have S1 := Lib.hid (show Hid (Below u11.heap.size u11 u11.drew) ∧ u11.drew.cell? ⟨w.heap.size, 0, none⟩ = some (.int .i64 a0_0) ∧ u11.drew.cell? ⟨w.heap.size, 1, none⟩ = some (.int .i64 a0_1) ∧ u11.drew.cell? ⟨w.heap.size, 2, none⟩ = some (.slice b0 len0 cap0) ∧ u11.drew.cell? ⟨w8.heap.size, 0, none⟩ = some (.int .i64 a0_0) ∧ u11.drew.cell? ⟨w8.heap.size, 1, none⟩ = some (.int .i64 a0_1) ∧ u11.drew.cell? ⟨w8.heap.size, 2, none⟩ = some (.slice a8 n8 k8) from ⟨Lib.hid (Below.refl _ _).drew, c0, c1, c2, Q9.out.c0, Q9.out.c1, Q9.out.c2⟩)
      clear c0 c1 c2
      go_wp2_with fail
      go_region_held3 (fun w' : World => Hid (Below u11.heap.size u11 w') ∧ w'.cell? ⟨w.heap.size, 0, none⟩ = some (.int .i64 a0_0) ∧ w'.cell? ⟨w.heap.size, 1, none⟩ = some (.int .i64 a0_1) ∧ w'.cell? ⟨w.heap.size, 2, none⟩ = some (.slice b0 len0 cap0) ∧ w'.cell? ⟨w8.heap.size, 0, none⟩ = some (.int .i64 a0_0) ∧ w'.cell? ⟨w8.heap.size, 1, none⟩ = some (.int .i64 a0_1) ∧ w'.cell? ⟨w8.heap.size, 2, none⟩ = some (.slice a8 n8 k8)) (first | exact S1.out | exact reg6_call (by assumption) b28 | exact reg6_call (by assumption) b29) (first | (go_at_call 9; refine (laws_toLedger _ _ _ _ _ z0 _ ((H.out.below B.out).below (reg6_b (W0 := u11) (by assumption))) hm).mono ?_; rintro e w28 ⟨a28, n28, k28, rfl, o28, b28⟩; have P8 := reg6_call (W0 := u11) (by assumption) b28; have O28 := Lib.hid o28.sf; clear o28) | (go_at_call 11; refine (laws_eqLedger _ _ _ _ _ _ _ _ z0 _ (O8.out.sf.below (reg6_b (W0 := u11) (by assumption))) O28.out (by omega)).mono ?_; rintro e w29 ⟨rfl, b29⟩; have P9 := Lib.hid ((reg6_call (W0 := u11) (by assumption) b29).1.out)))
      have b12 := P9.out
      have s12 := b12.size
      replace T := Lib.hid (Tri.below T.out b12 (cell_lt (led_at T.out).1))
      replace F := Lib.hid (Tri.below F.out b12 (cell_lt (duo_at F.out).1))
      replace E6 := Lib.hid (E6.out.more b12)
      replace O6 := Lib.hid (O6.out.below b12)
      replace O8 := Lib.hid (O8.out.below b12)
      replace Q9 := Lib.hid (Q9.out.more b12)
      replace E10 := Lib.hid (E10.out.more b12)
      replace O10 := Lib.hid (O10.out.below b12)
      replace B := Lib.hid (B.out.trans (b12.mono B.out.size))
      clear b12 P9 P8 b28 b29 O28 S1
      have p0 := Q9.out.c0
      have p1 := Q9.out.c1
      have p2 := Q9.out.c2
      go_wp2_with fail
      refine (laws_markLedger V6.heap.size w8.heap.size _ _ _ _ _ z0 _ _ O8.out (by omega) (by omega) (by omega)).mono ?_
      rintro e w13 ⟨wb, bb, rfl, o_m, ch, sz⟩
      have zb := bb.size
      clear p0 p1 p2
      replace T := Lib.hid (tri_chg (Tri.below T.out bb (cell_lt (led_at T.out).1)) ch (fun hp => by have := hp.1; have := hp.2; omega))
      replace F := Lib.hid (tri_chg (Tri.below F.out bb (cell_lt (duo_at F.out).1)) ch (fun hp => by have := hp.1; have := hp.2; omega))
      replace E6 := Lib.hid ((E6.out.more bb).keep ch (fun hp => by have := hp.1; have := hp.2; omega))
      replace O6 := Lib.hid ((O6.out.below bb).keep ch (fun b h1 h2 h3 hp => by have := hp.1; have := hp.2; omega))
      replace E10 := Lib.hid ((E10.out.more bb).keep ch (fun hp => by have := hp.1; have := hp.2; omega))
      replace O10 := Lib.hid ((O10.out.below bb).keep ch (fun b h1 h2 h3 hp => by have := hp.1; have := hp.2; omega))
      replace B := Lib.hid ((B.out.trans (bb.mono B.out.size)).trans (ch.below (Nat.le_trans B.out.size bb.size) (fun k hp => by have := hp.1; omega)))
      have s13 : w29.heap.size ≤ w13.heap.size := by omega
      clear o_m ch sz bb O8 Q9
      have p0 := E10.out.c0
      have p1 := E10.out.c1
      have p2 := E10.out.c2
      have q0 := E6.out.c0
      have q1 := E6.out.c1
      have q2 := E6.out.c2
      go_wp2_with fail
      refine (laws_eqLedger _ _ _ _ _ _ _ _ (Fr.pL a0_0 a0_1 z0 a1_0 a1_1) _ O10.out.sf O6.out.sf l10).mono ?_
      rintro e u14 ⟨rfl, b14⟩
      have s14 := b14.size
      clear p0 p1 p2 q0 q1 q2
      replace T := Lib.hid (Tri.below T.out b14 (cell_lt (led_at T.out).1))
      replace F := Lib.hid (Tri.below F.out b14 (cell_lt (duo_at F.out).1))
      replace E6 := Lib.hid (E6.out.more b14)
      replace O6 := Lib.hid (O6.out.below b14)
      replace E10 := Lib.hid (E10.out.more b14)
      replace O10 := Lib.hid (O10.out.below b14)
      replace B := Lib.hid (B.out.trans (b14.mono B.out.size))
      clear b14
      have p0 := E10.out.c0
      have p1 := E10.out.c1
      have p2 := E10.out.c2
      go_wp2_with fail
      refine (laws_markLedger lo10 hi10 _ _ _ _ _ (Fr.pL a0_0 a0_1 z0 a1_0 a1_1) _ _ O10.out (by omega) (by omega) (by omega)).mono ?_
      rintro e w15 ⟨wd, bb, rfl, o_m, ch, sz⟩
      have zd := bb.size
      clear p0 p1 p2
      replace T := Lib.hid (tri_chg (Tri.below T.out bb (cell_lt (led_at T.out).1)) ch (fun hp => by have := hp.1; have := hp.2; omega))
      replace F := Lib.hid (tri_chg (Tri.below F.out bb (cell_lt (duo_at F.out).1)) ch (fun hp => by have := hp.1; have := hp.2; omega))
      replace E6 := Lib.hid ((E6.out.more bb).keep ch (fun hp => by have := hp.1; have := hp.2; omega))
      replace O6 := Lib.hid ((O6.out.below bb).keep ch (fun b h1 h2 h3 hp => by have := hp.1; have := hp.2; omega))
      replace E10 := Lib.hid ((E10.out.more bb).keep ch (fun hp => by have := hp.1; have := hp.2; omega))
      replace B := Lib.hid ((B.out.trans (bb.mono B.out.size)).trans (ch.below (Nat.le_trans B.out.size bb.size) (fun k hp => by have := hp.1; omega)))
      have s15 : u14.heap.size ≤ w15.heap.size := by omega
      replace O10 := Lib.hid o_m
      clear o_m ch sz bb
      have i10 : ((1 + 2 * (n10 : Int)) != (1 + 2 * (n10 : Int))) = false := by simp
      have p0 := E10.out.c0
      have p1 := E10.out.c1
      have p2 := E10.out.c2
      go_wp2_with fail
      refine (laws_heldLedger _ _ _ _ _ _ _ O10.out.sl (by omega) (by omega) (by omega)).mono ?_
      rintro e u16 ⟨rfl, b16⟩
      have s16 := b16.size
      clear p0 p1 p2
      replace T := Lib.hid (Tri.below T.out b16 (cell_lt (led_at T.out).1))
      replace F := Lib.hid (Tri.below F.out b16 (cell_lt (duo_at F.out).1))
      replace E6 := Lib.hid (E6.out.more b16)
      replace O6 := Lib.hid (O6.out.below b16)
      replace E10 := Lib.hid (E10.out.more b16)
      replace O10 := Lib.hid (O10.out.below b16)
      replace B := Lib.hid (B.out.trans (b16.mono B.out.size))
      clear b16
      obtain ⟨p0, p1, p2, -, -, -⟩ := led_at T.out
      obtain ⟨p3, p4, -, -⟩ := duo_at F.out
      have S1 := Lib.hid (show Hid (Below u16.heap.size u16 u16.drew) ∧ u16.drew.cell? ⟨w.heap.size, 0, none⟩ = some (.int .i64 a0_0) ∧ u16.drew.cell? ⟨w.heap.size, 1, none⟩ = some (.int .i64 a0_1) ∧ u16.drew.cell? ⟨w.heap.size, 2, none⟩ = some (.slice b0 len0 cap0) ∧ u16.drew.cell? ⟨w.heap.size + 1, 0, none⟩ = some (.int .i64 a1_0) ∧ u16.drew.cell? ⟨w.heap.size + 1, 1, none⟩ = some (.int .i64 a1_1) from ⟨Lib.hid (Below.refl _ _).drew, p0, p1, p2, p3, p4⟩)
      have HB := Lib.hid (show w.heap.size < u16.heap.size ∧ w.heap.size < u16.heap.size ∧ w.heap.size < u16.heap.size ∧ w.heap.size + 1 < u16.heap.size ∧ w.heap.size + 1 < u16.heap.size by omega)
      clear p0 p1 p2 p3 p4
      go_wp2_with fail
      go_cut [14, 15] (fun p q W => LedAt u16 (Fr.pC a0_0 a0_1 z0 a1_0 a1_1) (Fr.pD a0_0 a0_1 z0 a1_0 a1_1) (Fr.pL a0_0 a0_1 z0 a1_0 a1_1) (Fr.pB a0_0 a0_1 z0 a1_0 a1_1) p q W)
      case first =>
        go_region_held3 (fun w' : World => Hid (Below u16.heap.size u16 w') ∧ w'.cell? ⟨w.heap.size, 0, none⟩ = some (.int .i64 a0_0) ∧ w'.cell? ⟨w.heap.size, 1, none⟩ = some (.int .i64 a0_1) ∧ w'.cell? ⟨w.heap.size, 2, none⟩ = some (.slice b0 len0 cap0) ∧ w'.cell? ⟨w.heap.size + 1, 0, none⟩ = some (.int .i64 a1_0) ∧ w'.cell? ⟨w.heap.size + 1, 1, none⟩ = some (.int .i64 a1_1)) (first | exact S1.out | exact reg5_call (by assumption) b25 | exact reg5_call (by assumption) b26 | exact reg5_call (by assumption) b27 | exact reg5_call (by assumption) (bel_box _ _) | exact reg5_re HB P7 (by assumption) | exact reg5_set HB (by assumption) ((((Below.refl _ _).setCell (by first | omega | (simp; done) | (simp; omega)) _).setCell (by first | omega | (simp; done) | (simp; omega)) _).setCell (by first | omega | (simp; done) | (simp; omega)) _)) (first | (go_at_call 9; refine (laws_toLedger _ _ _ _ _ z0 _ ((H.out.below B.out).below (reg5_b (W0 := u16) (by assumption))) hm).mono ?_; rintro e x25 ⟨a25, n25, k25, rfl, o25, b25⟩; have O25 := Lib.hid o25.sf; have l25 : n25 ≤ 1048576 := (by rw [← o25.len, H.out.len]; exact hm); clear o25; (first | have D5 := Tru.now b25 | have D5 := Tru.nowD b25 | have D5 := Tru.more (by assumption) b25 | skip); (try (have d0 := D5.c0; have d1 := D5.c1; have d2 := D5.c2; have d3 := D5.f0; have d4 := D5.f1; have d5 := D5.f2)); have y25 := (reg5_call (W0 := u16) (by assumption) b25).1.out.size; have z25 := b25.size; (try simp at z25)) | (go_at_call 16; refine (laws_toFrac _ _ _).mono ?_; rintro e x26 ⟨rfl, b26⟩; (first | have D5 := Tru.now b26 | have D5 := Tru.nowD b26 | have D5 := Tru.more (by assumption) b26 | skip); (try (have d0 := D5.c0; have d1 := D5.c1; have d2 := D5.c2; have d3 := D5.f0; have d4 := D5.f1; have d5 := D5.f2)); have y26 := (reg5_call (W0 := u16) (by assumption) b26).1.out.size; have z26 := b26.size; (try simp at z26)) | (go_at_call 17; refine (impl_LedgerPay _ _ _ _ _ z0 _ _ _ (by first | exact O25.out | exact O25.out.below b26 | exact O25.out.below (bel_box _ _) | exact (O25.out.below b26).below (bel_box _ _) | exact (O25.out.below (bel_box _ _)).below b26) l25).mono ?_; rintro e x27 ⟨a7, n7, k7, rfl, o7, b27⟩; have P7 := Lib.hid ((reg5_call (W0 := u16) (by assumption) b27).1.out); have q7 := reg5_sz (W0 := u16) (by assumption) b27; (first | have D5 := Tru.now b27 | have D5 := Tru.nowD b27 | have D5 := Tru.more (by assumption) b27 | skip); (try (have d0 := D5.c0; have d1 := D5.c1; have d2 := D5.c2; have d3 := D5.f0; have d4 := D5.f1; have d5 := D5.f2)); have y27 := (reg5_call (W0 := u16) (by assumption) b27).1.out.size; have z27 := b27.size; (try simp at z27)))
        all_goals
          go_wp2
          go_meet
          first | exact LedAt.new P7.out o7 q7 (Nat.le_refl _) | exact LedAt.set P7.out D5 (by first | omega | (simp; done) | (simp; omega)) o7 q7 (Nat.le_refl _) (by first | omega | (simp; done) | (simp; omega))
      case rest =>
        obtain ⟨g20, a20, n20, k20, lo20, hi20, rfl, rfl, b20, t20, hg20, o20, hl20, hh20, hx20⟩ := hcut
        rename World => V20
        have s20 := b20.size
        have E20 := Lib.hid t20
        have O20 := Lib.hid o20
        have l20 : n20 ≤ 1048577 := by rw [← o20.len]; exact LL
        replace T := Lib.hid (Tri.below T.out b20 (cell_lt (led_at T.out).1))
        replace F := Lib.hid (Tri.below F.out b20 (cell_lt (duo_at F.out).1))
        replace E6 := Lib.hid (E6.out.more b20)
        replace O6 := Lib.hid (O6.out.below b20)
        replace E10 := Lib.hid (E10.out.more b20)
        replace O10 := Lib.hid (O10.out.below b20)
        replace B := Lib.hid (B.out.trans (b20.mono B.out.size))
        clear b20 t20 o20 S1 HB
        have p0 := E20.out.c0
        have p1 := E20.out.c1
        have p2 := E20.out.c2
        have q0 := E6.out.c0
        have q1 := E6.out.c1
        have q2 := E6.out.c2
        go_wp2_with fail
        refine (laws_eqLedger _ _ _ _ _ _ _ _ (Fr.pL a0_0 a0_1 z0 a1_0 a1_1) _ O20.out.sf O6.out.sf l20).mono ?_
        rintro e u21 ⟨rfl, b21⟩
        have s21 := b21.size
        clear p0 p1 p2 q0 q1 q2
        replace T := Lib.hid (Tri.below T.out b21 (cell_lt (led_at T.out).1))
        replace F := Lib.hid (Tri.below F.out b21 (cell_lt (duo_at F.out).1))
        replace E6 := Lib.hid (E6.out.more b21)
        replace O6 := Lib.hid (O6.out.below b21)
        replace E10 := Lib.hid (E10.out.more b21)
        replace O10 := Lib.hid (O10.out.below b21)
        replace B := Lib.hid (B.out.trans (b21.mono B.out.size))
        clear b21
        have p0 := E10.out.c0
        have p1 := E10.out.c1
        have p2 := E10.out.c2
        go_wp2_with fail
        refine (laws_heldLedger _ _ _ _ _ _ _ O10.out.sl (by omega) (by omega) (by omega)).mono ?_
        rintro e u22 ⟨rfl, b22⟩
        have s22 := b22.size
        clear p0 p1 p2
        replace B := Lib.hid (B.out.trans (b22.mono B.out.size))
        clear b22
        go_wp2
        go_ret
        exact ⟨rfl, B.out⟩

/-! ### THE ROW's STEP: WRITTEN OUT: LEAVE IT -/
set_option maxRecDepth 100000 in
theorem lifted (os : Os) (started : os.Started) (H : Type) (enc : TypeId × Value → H) :
    ReturnsInHanded {} Try.checked os 5 .any (Rows.fnExactLedgerPaySpec.pre6 enc Try.prog Try.f5 Rows.fnExactLedgerPayRow.domain false) (Rows.fnExactLedgerPaySpec.post enc Try.prog Try.f5 false true false false) := by
  refine returnsInHanded_of_change (C := Try.checked) own started (by kernel_rfl) Try.func5
    (ChangeSpec.witness6 (enc := enc) (C := Try.checked) false ⟨#[], #[.agg #[.int .i64 0, .int .i64 0, .slice none 0 0], .agg #[.int .i64 0, .int .i64 0]], []⟩ 8 (by kernel_rfl) (by kernel_rfl) (by kernel_rfl) (by kernel_rfl)) ?_
  intro W base args ds gs before hval0 hW hcnd _
  have hval : ∀ (j : Nat) t v, Try.f5.params[j]? = some t → args[j]? = some v → Value.okWide Try.prog W .any base t v := hval0
  have hW' := hW
  obtain ⟨p, q, hA0, hV, rfl, hfz, hnd⟩ := hW
  have hA : DataW.TrodAll enc Try.prog W 0 (fun _ => true) true Try.f5.params.toList args.toList ds p := hA0
  rw [Try.params5] at hA hval
  obtain ⟨v0, vs0, d0, ds0, p0, q0, hargs, rfl, rfl, h0, r0⟩ := trodAll_cons hA
  obtain ⟨v1, vs1, d1, ds1, p1, q1, rfl, rfl, rfl, h1, r1⟩ := trodAll_cons r0
  obtain ⟨rfl, rfl, rfl⟩ := trodAll_nil r1
  obtain rfl : args = #[v0, v1] := by cases args; simp_all
  obtain ⟨rfl, rfl⟩ := trodVars_none hV
  have k0 := h0
  have lt0 : ∀ x ∈ p0, x.block < W.heap.size := by obtain ⟨m, hm⟩ := k0; exact DataW.trod_lt m _ _ _ hm
  obtain ⟨a0_0, a0_1, b0, len0, cap0, z0, rfl, w0⟩ := open_ledger (hval 0 26 v0 rfl rfl) h0
  have k1 := h1
  have lt1 : ∀ x ∈ p1, x.block < W.heap.size := by obtain ⟨m, hm⟩ := k1; exact DataW.trod_lt m _ _ _ hm
  obtain ⟨c1_0, c1_1, y1_0, y1_1, m1, hv1, -, -, g1_0, g1_1⟩ := Go.Joins.open_agg2 Try.underlying23 (by kernel_rfl) (by kernel_rfl) (hval 1 23 v1 rfl rfl) h1
  obtain ⟨a1_0, e1_0, -, w1_0⟩ := DataW.trod_int Try.underlying3 g1_0
  obtain rfl : c1_0 = .int .i64 a1_0 := by simpa using e1_0
  obtain ⟨a1_1, e1_1, -, w1_1⟩ := DataW.trod_int Try.underlying3 g1_1
  obtain rfl : c1_1 = .int .i64 a1_1 := by simpa using e1_1
  subst hv1
  clear hA0 hval0
  refine (walk a0_0 a0_1 b0 len0 cap0 z0 a1_0 a1_1 W w0 w1_0 w1_1).mono fun e W' ⟨he, bel⟩ => ?_
  subst he
  exact ⟨_, rfl, _, _, _, [], _, [], hW', trodAll_mk1 (shut_bool Try.underlying4 _), (trodAll_cons_mk (Below.trod laidOut (by kernel_rfl) (of_decide_eq_true (by kernel_rfl)) k0 bel lt0) (trodAll_cons_mk (Below.trod laidOut (by kernel_rfl) (of_decide_eq_true (by kernel_rfl)) k1 bel lt1) trodAll_mk0)), rfl, bel.frame _, fun h => by cases h⟩

theorem over : Rows.fnExactLedgerPayRow.holds Try.pinned (OpenSpec.ofChange Rows.fnExactLedgerPaySpec) :=
  OpenClaim.holds_of_wide 5 Try.f5 rfl rfl rfl rfl rfl rfl rfl ⟨rfl, rfl, rfl, rfl, rfl⟩ rfl rfl rfl rfl rfl (by kernel_rfl) Try.func5 (by kernel_rfl)
    (of_decide_eq_true (by kernel_rfl)) (by unfold Func.isWrapper; first | (rw [if_pos (by decide +kernel)]; kernel_rfl) | (rw [if_neg (by decide +kernel)]; exact ⟨rfl, rfl⟩))
    (fun os started H enc _ => lifted os started H enc)

/-- ████ THE STATEMENT ████ -/
theorem proved : Rows.FnExactLedgerPaySaid := over
#print axioms proved
end Go.Proofs.Ytgiilckfenemmab.fnExactLedgerPay
