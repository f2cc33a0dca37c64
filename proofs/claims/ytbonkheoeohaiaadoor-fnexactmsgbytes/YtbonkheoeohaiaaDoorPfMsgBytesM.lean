/-
  Proved: called with any arguments, the law FnExactMsgBytes returns true, and each argument reads behind the call as it read before; the listed package variables hold what the program's own text lays in them (the card ties this).
-/
import Derived.Test.YtbonkheoeohaiaaDoorMb29
import Derived.Test.YtbonkheoeohaiaaDoorMb2
import Derived.Test.YtbonkheoeohaiaaDoorMb4
import Derived.Test.YtbonkheoeohaiaaDoorCards
import Derived.Test.YtbonkheoeohaiaaDoorTie
import Derived.ProofKit
import Derived.OpenShut
import Derived.ShutString
import Derived.ChangeOld
import Derived.Below
import Derived.LaidMore
import Derived.Stop.Joined
import Derived.WalkSmall
import Derived.SevenTiedAt
namespace Go.Proofs.YtbonkheoeohaiaaDoor
open Go.ChangeShapes Go.WideShapes Go.ChangeAt Go.RowKit
open Go.ChangeMaps (open_string shut_string)
set_option linter.unusedVariables false

theorem own_fnExactMsgBytes : ownKnob Tryd.prog.godebug = none := by kernel_rfl
theorem laidOut_fnExactMsgBytes : laidOutB Tryd.prog = true := by kernel_rfl
theorem gl0_fnExactMsgBytes : Tryd.prog.globalNamed ((Rows.fnExactMsgBytesRow.laid.map (·.1)).getD 0 default) = some 0 := by kernel_rfl
theorem gt0_fnExactMsgBytes : (Tryd.prog.globals[0]?).map (·.type) = some 101 := by kernel_rfl
theorem gl1_fnExactMsgBytes : Tryd.prog.globalNamed ((Rows.fnExactMsgBytesRow.laid.map (·.1)).getD 1 default) = some 1 := by kernel_rfl
theorem gt1_fnExactMsgBytes : (Tryd.prog.globals[1]?).map (·.type) = some 101 := by kernel_rfl
theorem gv0_fnExactMsgBytes : Tryd.prog.globalNamed (Rows.fnExactMsgBytesSpec.vars.getD 0 default) = some 1 := by kernel_rfl
theorem gu0_fnExactMsgBytes : (Tryd.prog.globals[1]?).map (·.type) = some 101 := by kernel_rfl
theorem gv1_fnExactMsgBytes : Tryd.prog.globalNamed (Rows.fnExactMsgBytesSpec.vars.getD 1 default) = some 0 := by kernel_rfl
theorem gu1_fnExactMsgBytes : (Tryd.prog.globals[0]?).map (·.type) = some 101 := by kernel_rfl
theorem door_fnExactMsgBytes (os : Os) (args : Array Value) : laidMetH Tryd.prog Rows.fnExactMsgBytesRow.laid ((World.doorLaid Tryd.prog 400 os).forCall (fun _ _ => 0) ⟨#[], args, []⟩).memory :=
  laidMetH_of_parts3 (fuel := 8) (laidMet_of_run' 8 (by kernel_rfl) (by kernel_rfl)) (by kernel_rfl) (by kernel_rfl)

set_option maxRecDepth 100000 in
theorem lifted_fnExactMsgBytes (os : Os) (started : os.Started) (H : Type) (enc : TypeId × Value → H) :
    ReturnsInHanded {} Tryd.checked os 4 .any (fun w args => (Rows.fnExactMsgBytesSpec.pre enc Tryd.prog Tryd.f4 [] false w args ∧ laidMetH Tryd.prog Rows.fnExactMsgBytesRow.laid w) ∧ sizedMet enc Tryd.prog Tryd.f4 (OpenSpec.ofChange Rows.fnExactMsgBytesSpec) false w args)
      (Rows.fnExactMsgBytesSpec.post enc Tryd.prog Tryd.f4 false true false false) := by
  refine returnsInHanded_of_change_and (C := Tryd.checked) (X := fun w _ => laidMetH Tryd.prog Rows.fnExactMsgBytesRow.laid w) (fun _ _ _ hh h => h.of_heap hh) own_fnExactMsgBytes started (by kernel_rfl) Tryd.func4
    (ChangeSpec.witness_shaped (enc := enc) (C := Tryd.checked) (os := os) (X := fun w _ => laidMetH Tryd.prog Rows.fnExactMsgBytesRow.laid w) false (World.doorLaid Tryd.prog 400 os) #[.agg #[.int .i64 0, .int .i64 0, .int .i64 0, .int .i64 0, .int .i64 0, .int .i64 0, .int .i64 0, .int .i64 0, .string ByteArray.empty, .string ByteArray.empty, .string ByteArray.empty, .string ByteArray.empty, .int .i64 0, .bool false, .int .i64 0, .slice none 0 0, .bool false]] 8 rfl (World.shaped_of_RefB (by kernel_rfl) (by kernel_rfl)) (by kernel_rfl) (by kernel_rfl) (by kernel_rfl) (door_fnExactMsgBytes os _)) ?_
  intro W base args ds gs before hval0 hW _ _ hL _
  have hval : ∀ (j : Nat) t v, Tryd.f4.params[j]? = some t → args[j]? = some v → Value.okWide Tryd.prog W .any base t v := hval0
  have hW' := hW
  obtain ⟨p, q, hA0, hV, rfl, hfz, hnd⟩ := hW
  have hA : DataW.TrodAll enc Tryd.prog W 0 (fun _ => true) true Tryd.f4.params.toList args.toList ds p := hA0
  rw [Tryd.params4] at hA hval
  obtain ⟨v0, vs0, d0, ds0, p0, q0, hargs, rfl, rfl, h0, r0⟩ := trodAll_cons hA
  obtain ⟨rfl, rfl, rfl⟩ := trodAll_nil r0
  obtain rfl : args = #[v0] := by cases args; simp_all
  have k0 := h0
  have lt0 : ∀ x ∈ p0, x.block < W.heap.size := by obtain ⟨m, hm⟩ := k0; exact DataW.trod_lt m _ _ _ hm
  obtain ⟨kdr0, cr0, er0, nr0, shr0, nur0, str0, kr0, kyr0, vlr0, lor0, hir0, mor0, bkr0, cdr0, par0, pnr0, pcr0, psr0, ysr0, rfl, w0⟩ := open_msg (hval 0 45 v0 rfl rfl) h0
  rw [MakeChecks.laidMetH_plain _ _ _ (by kernel_rfl)] at hL
  have e0 : Err W 0 := laid_err hL gl0_fnExactMsgBytes gt0_fnExactMsgBytes Tryd.underlying101
  have e1 : Err W 1 := laid_err hL.tail gl1_fnExactMsgBytes gt1_fnExactMsgBytes Tryd.underlying101
  obtain ⟨g0, t0, cs0, f0, y0, q0', g1, t1, cs1, f1, y1, q1', rfl, hg0, ht0, hv0, hd0, hg1, ht1, hv1, hd1, hq⟩ := trodVars_two hV
  obtain rfl := Option.some.inj (gv0_fnExactMsgBytes.symm.trans hg0)
  obtain rfl := Option.some.inj (gu0_fnExactMsgBytes.symm.trans ht0)
  obtain ⟨x0, rfl, ix0, rfl, rfl, cx0⟩ := token_of hg0 Tryd.underlying101 hv0 hd0
  obtain rfl := Option.some.inj (gv1_fnExactMsgBytes.symm.trans hg1)
  obtain rfl := Option.some.inj (gu1_fnExactMsgBytes.symm.trans ht1)
  obtain ⟨x1, rfl, ix1, rfl, rfl, cx1⟩ := token_of hg1 Tryd.underlying101 hv1 hd1
  clear hA0 hval0
  refine (lawMsgBytes_door kdr0 cr0 er0 nr0 shr0 nur0 str0 kr0 kyr0 vlr0 lor0 hir0 mor0 bkr0 cdr0 par0 pnr0 pcr0 psr0 ysr0 W w0 e1 e0 e1.lt e0.lt).mono fun e W' ⟨he, bel⟩ => ?_
  subst he
  exact ⟨_, rfl, _, _, _, [], _, [.cell 1 0, .cell 0 0], hW', trodAll_mk1 (shut_bool Tryd.underlying4 _), (trodAll_cons_mk (Below.trod laidOut_fnExactMsgBytes (by kernel_rfl) (of_decide_eq_true (by kernel_rfl)) k0 bel lt0) trodAll_mk0), vars_read2 enc gv0_fnExactMsgBytes gu0_fnExactMsgBytes Tryd.underlying101 (var?_below bel gv0_fnExactMsgBytes e1.lt hv0) ix0 gv1_fnExactMsgBytes gu1_fnExactMsgBytes Tryd.underlying101 (var?_below bel gv1_fnExactMsgBytes e0.lt hv1) ix1 _, bel.frame _, fun h => by cases h⟩

theorem said_fnExactMsgBytes : Rows.FnExactMsgBytesSaid :=
  OpenClaim.holds_of_wide 4 Tryd.f4 rfl rfl rfl rfl rfl rfl rfl ⟨rfl, rfl, rfl, rfl, rfl⟩ rfl rfl rfl rfl rfl (by kernel_rfl) Tryd.func4 (by kernel_rfl)
    (of_decide_eq_true (by kernel_rfl)) (by unfold Func.isWrapper; first | (rw [if_pos (by decide +kernel)]; kernel_rfl) | (rw [if_neg (by decide +kernel)]; exact ⟨rfl, rfl⟩))
    (fun os started H enc _ => lifted_fnExactMsgBytes os started H enc)

theorem plain_fnExactMsgBytes (f : FuncId) (fn : Func) (hf : Tryd.pinned.checked.prog.funcNamed Rows.fnExactMsgBytesRow.func = some f) (hfn : Tryd.pinned.checked.prog.funcs[f]? = some fn) :
    Rows.fnExactMsgBytesCard.stood.looks = Tryd.pinned.checked.prog.looks [] ∧ ∀ (j : Nat) t, fn.params[j]? = some t → Tryd.pinned.checked.prog.wantsStandIn t = false := by
  obtain rfl : f = 4 := Option.some.inj ((show Tryd.prog.funcNamed Rows.fnExactMsgBytesRow.func = some 4 by kernel_rfl).symm.trans hf) |>.symm
  obtain rfl : fn = Tryd.f4 := (Option.some.inj (Tryd.func4.symm.trans hfn)).symm
  refine ⟨by kernel_rfl, fun j t ht => ?_⟩
  rw [Tryd.params4] at ht
  have hm : t ∈ [45] := by simpa using Array.mem_of_getElem? ht
  have hall : ([45].all fun u => !Tryd.prog.wantsStandIn u) = true := by kernel_rfl
  exact (show Tryd.prog.wantsStandIn t = false by simpa using List.all_eq_true.1 hall t hm)

theorem fnExactMsgBytes_card : Rows.FnExactMsgBytesCardSaid :=
  Claim7.holds_tied_plain_at .later [] _ _ _ _ said_fnExactMsgBytes (fun _ h => by cases h) (by kernel_rfl) (fun _ h => by cases h) fnExactMsgBytes_row_tie rfl ⟨rfl, rfl⟩ (by kernel_rfl) rfl plain_fnExactMsgBytes (by kernel_rfl)
#print axioms fnExactMsgBytes_card
end Go.Proofs.YtbonkheoeohaiaaDoor

