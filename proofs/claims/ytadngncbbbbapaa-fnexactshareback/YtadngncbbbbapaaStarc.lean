/-
  The starter's way between its regions.
-/
import Derived.Test.YtadngncbbbbapaaStarb
import Derived.Test.YtadngncbbbbapaaWgy
namespace Go.Proofs.Ytadngncbbbbapaa.Lift
open Go.Conc Go.Proofs.Ytadngncbbbbapaa.Crew Go.RowKit
open Go.Proofs.Ytadngncbbbbapaa.Wgs (cf gAdd gWait goes_nxs nxs didL askL)
open Go.ConcR (WgAt stA smA)
set_option linter.unusedVariables false
local notation "PP" => Try.prog
noncomputable def ops4 : Array Oper := match bodyC with | .seq _ (.seq _ (.seq _ (.seq (.region _ x _) _))) => x | _ => #[]
noncomputable def aft4 : Code := match bodyC with | .seq _ (.seq _ (.seq _ (.seq _ x))) => x | _ => .skip
noncomputable def ops9 : Array Oper := match lbC with | .seq _ (.seq (.block _ (.seq _ (.seq (.region _ x _) _))) _) => x | _ => #[]
noncomputable def rg10 : Code := match lbC with | .seq _ (.seq (.block _ (.seq _ (.seq _ x))) _) => x | _ => .skip
noncomputable def c910 : Code := match lbC with | .seq _ (.seq (.block _ (.seq _ x)) _) => x | _ => .skip
noncomputable def ops10 : Array Oper := match rg10 with | .region _ x _ => x | _ => #[]
noncomputable def rest1 : Code := match lbC with | .seq _ x => x | _ => .skip
noncomputable def rest2 : Code := match lbC with | .seq _ (.seq _ x) => x | _ => .skip
noncomputable def ops13 : Array Oper := match tlC with | .seq (.region _ x _) _ => x | _ => #[]
noncomputable def tl14 : Code := match tlC with | .seq _ x => x | _ => .skip
noncomputable def lpT : List Item := [.inLoop lbC, .inBlock 0, .code tlC]
noncomputable def hdT : List Item := .code lbC :: lpT
noncomputable def tdA : List Item := .inRegion ops9 [0] :: .code rg10 :: .inBlock 1 :: .code rest2 :: lpT
noncomputable def tdW : List Item := [.inRegion ops13 [0], .code tl14]
noncomputable def gAt (tm : Array Value) (td : List Item) (cs : List Frame) : Goroutine := G ((base 40).at ⟨tm, []⟩ td) cs
/-- behind the making of the group -/
theorem e1 (tm : Array Value) (cs : List Frame) : nxs PP true 3 (gAt tm [.inRegion ops4 [], .code aft4] cs) = gAt tm [.code rg5, .code (.block 0 (.loop lbC)), .code tlC] cs := by kernel_rfl
theorem i1 (tm : Array Value) (cs : List Frame) (w : World) : didL PP true 3 (gAt tm [.inRegion ops4 [], .code aft4] cs) w = askL PP true 3 (gAt tm [.inRegion ops4 [], .code aft4] cs) w := by kernel_rfl
theorem e2 (tm : Array Value) (cs : List Frame) : nxs PP true 2 (gAt tm [.code (.block 0 (.loop lbC)), .code tlC] cs) = gAt tm hdT cs := by kernel_rfl
theorem i2 (tm : Array Value) (cs : List Frame) (w : World) : didL PP true 2 (gAt tm [.code (.block 0 (.loop lbC)), .code tlC] cs) w = askL PP true 2 (gAt tm [.code (.block 0 (.loop lbC)), .code tlC] cs) w := by kernel_rfl
theorem e3 (tm : Array Value) (cs : List Frame) : nxs PP true 2 (gAt tm hdT cs) = gAt tm (.code rg6 :: .code (.cond (.tmp 33) .skip (.exit 0)) :: .code rest1 :: lpT) cs := by kernel_rfl
theorem i3 (tm : Array Value) (cs : List Frame) (w : World) : didL PP true 2 (gAt tm hdT cs) w = askL PP true 2 (gAt tm hdT cs) w := by kernel_rfl
theorem e4 (tm : Array Value) (cs : List Frame) : nxs PP true 4 (gAt tm (.code .skip :: .code rest1 :: lpT) cs) = gAt tm (.code rg8 :: .code c910 :: .inBlock 1 :: .code rest2 :: lpT) cs := by kernel_rfl
theorem i4 (tm : Array Value) (cs : List Frame) (w : World) : didL PP true 4 (gAt tm (.code .skip :: .code rest1 :: lpT) cs) w = askL PP true 4 (gAt tm (.code .skip :: .code rest1 :: lpT) cs) w := by kernel_rfl
theorem e5 (H : Hdr) (Wg fb : Nat) (u : Nat → Value) (cs : List Frame) : nxs PP true 3 (gAt (TS H Wg fb u) (.code c910 :: .inBlock 1 :: .code rest2 :: lpT) cs) = gAdd (TS H Wg fb u) tdA cs Wg := by kernel_rfl
theorem i5 (H : Hdr) (Wg fb : Nat) (u : Nat → Value) (cs : List Frame) (w : World) : didL PP true 3 (gAt (TS H Wg fb u) (.code c910 :: .inBlock 1 :: .code rest2 :: lpT) cs) w = askL PP true 3 (gAt (TS H Wg fb u) (.code c910 :: .inBlock 1 :: .code rest2 :: lpT) cs) w := by kernel_rfl
theorem e6 (H : Hdr) (Wg fb : Nat) (u : Nat → Value) (cs : List Frame) : nxs PP true 4 (gAt (TS H Wg fb u) (.code (.exit 0) :: .code rest1 :: lpT) cs) = gWait (TS H Wg fb u) tdW cs Wg := by kernel_rfl
theorem i6 (H : Hdr) (Wg fb : Nat) (u : Nat → Value) (cs : List Frame) (w : World) : didL PP true 4 (gAt (TS H Wg fb u) (.code (.exit 0) :: .code rest1 :: lpT) cs) w = askL PP true 4 (gAt (TS H Wg fb u) (.code (.exit 0) :: .code rest1 :: lpT) cs) w := by kernel_rfl
/-- with the stretch's end -/
def TS1 (H : Hdr) (Wg fb tb : Nat) (u : Nat → Value) : Array Value := #[u 0, u 1, u 2, .pointer (some ⟨H.op, 0, none⟩), .pointer (some ⟨H.a, 0, none⟩), .pointer (some ⟨H.b, 0, none⟩), u 6, u 7, .pointer (some ⟨H.ou, 0, none⟩), .pointer (some ⟨Wg, 0, none⟩), .pointer (some ⟨fb, 0, none⟩), .pointer (some ⟨tb, 0, none⟩), u 12, u 13, u 14, u 15, u 16, u 17, u 18, u 19, u 20, u 21, u 22, u 23, u 24, u 25, u 26, u 27, u 28, u 29, u 30, u 31, u 32, u 33, u 34, u 35, u 36, u 37, u 38, u 39, u 40, u 41, u 42, u 43, u 44, u 45]
theorem ts1 {H : Hdr} {Wg fb tb : Nat} {u : Nat → Value} (h : u 11 = .pointer (some ⟨tb, 0, none⟩)) : TS H Wg fb u = TS1 H Wg fb tb u := by simp only [TS, TS1, h]
noncomputable def gGo (H : Hdr) (Wg fb tb : Nat) (u : Nat → Value) (cs : List Frame) : Goroutine := nxs PP true 3 (G ((cf (TS1 H Wg fb tb u) tdA).finish (.tuple #[])) cs)
theorem i7 (H : Hdr) (Wg fb tb : Nat) (u : Nat → Value) (cs : List Frame) (w : World) : didL PP true 3 (G ((cf (TS1 H Wg fb tb u) tdA).finish (.tuple #[])) cs) w = askL PP true 3 (G ((cf (TS1 H Wg fb tb u) tdA).finish (.tuple #[])) cs) w := by kernel_rfl
theorem r7 (H : Hdr) (Wg fb tb : Nat) (u : Nat → Value) (cs : List Frame) : (gGo H Wg fb tb u cs).status = .running := by kernel_rfl
noncomputable def uGo (H : Hdr) (Wg fb tb : Nat) (u : Nat → Value) (cs : List Frame) (i : Nat) : Value := (gGo H Wg fb tb u cs).frame.tmps.getD i undef
theorem s7 (H : Hdr) (Wg fb tb : Nat) (u : Nat → Value) (cs : List Frame) (w : World) : stepG PP true (gGo H Wg fb tb u cs) w = .spawn (gAt (TS H Wg fb (uGo H Wg fb tb u cs)) (.inRegion ops10 [] :: .inBlock 1 :: .code rest2 :: lpT) cs) (born PP (dgo Wg H.ou fb tb H.op H.a H.b)) w #[] := by kernel_rfl
theorem e8 (tm : Array Value) (cs : List Frame) : nxs PP true 4 (gAt tm (.inRegion ops10 [] :: .inBlock 1 :: .code rest2 :: lpT) cs) = gAt tm (.code rg11 :: .code rg12 :: .code rg7 :: lpT) cs := by kernel_rfl
theorem i8 (tm : Array Value) (cs : List Frame) (w : World) : didL PP true 4 (gAt tm (.inRegion ops10 [] :: .inBlock 1 :: .code rest2 :: lpT) cs) w = askL PP true 4 (gAt tm (.inRegion ops10 [] :: .inBlock 1 :: .code rest2 :: lpT) cs) w := by kernel_rfl
theorem e9 (tm : Array Value) (cs : List Frame) : nxs PP true 1 (gAt tm lpT cs) = gAt tm hdT cs := by kernel_rfl
theorem i9 (tm : Array Value) (cs : List Frame) (w : World) : didL PP true 1 (gAt tm lpT cs) w = askL PP true 1 (gAt tm lpT cs) w := by kernel_rfl
end Go.Proofs.Ytadngncbbbbapaa.Lift
