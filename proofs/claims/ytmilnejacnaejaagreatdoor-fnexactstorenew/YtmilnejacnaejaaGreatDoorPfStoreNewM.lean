/-
  Proved: called with any arguments, the law FnExactStoreNew returns true, and each argument reads behind the call as it read before; the listed package variables hold what the program's own text lays in them (the card ties this).
-/
import Derived.Test.YtmilnejacnaejaaGreatDoorMo10
import Derived.Test.YtmilnejacnaejaaGreatDoorCards
import Derived.Test.YtmilnejacnaejaaGreatDoorTie
import Derived.ProofKit
import Derived.OpenShut
import Derived.ShutString
import Derived.ChangeOld
import Derived.Below
import Derived.LaidMore
import Derived.Stop.Joined
import Derived.WalkSmall
import Derived.SevenTiedAt
namespace Go.Proofs.YtmilnejacnaejaaGreatDoor
open Go.ChangeShapes Go.WideShapes Go.ChangeAt Go.RowKit
open Go.ChangeMaps (open_string shut_string)
set_option linter.unusedVariables false

theorem own_fnExactStoreNew : ownKnob Tryz.prog.godebug = none := by kernel_rfl
theorem laidOut_fnExactStoreNew : laidOutB Tryz.prog = true := by kernel_rfl
theorem gl0_fnExactStoreNew : Tryz.prog.globalNamed ((Rows.fnExactStoreNewRow.laid.map (·.1)).getD 0 default) = some 2 := by kernel_rfl
theorem gt0_fnExactStoreNew : (Tryz.prog.globals[2]?).map (·.type) = some 243 := by kernel_rfl
theorem gl1_fnExactStoreNew : Tryz.prog.globalNamed ((Rows.fnExactStoreNewRow.laid.map (·.1)).getD 1 default) = some 0 := by kernel_rfl
theorem gt1_fnExactStoreNew : (Tryz.prog.globals[0]?).map (·.type) = some 243 := by kernel_rfl
theorem gl2_fnExactStoreNew : Tryz.prog.globalNamed ((Rows.fnExactStoreNewRow.laid.map (·.1)).getD 2 default) = some 1 := by kernel_rfl
theorem gt2_fnExactStoreNew : (Tryz.prog.globals[1]?).map (·.type) = some 243 := by kernel_rfl
theorem gl3_fnExactStoreNew : Tryz.prog.globalNamed ((Rows.fnExactStoreNewRow.laid.map (·.1)).getD 3 default) = some 3 := by kernel_rfl
theorem gt3_fnExactStoreNew : (Tryz.prog.globals[3]?).map (·.type) = some 243 := by kernel_rfl
theorem gv0_fnExactStoreNew : Tryz.prog.globalNamed (Rows.fnExactStoreNewSpec.vars.getD 0 default) = some 0 := by kernel_rfl
theorem gu0_fnExactStoreNew : (Tryz.prog.globals[0]?).map (·.type) = some 243 := by kernel_rfl
theorem gv1_fnExactStoreNew : Tryz.prog.globalNamed (Rows.fnExactStoreNewSpec.vars.getD 1 default) = some 1 := by kernel_rfl
theorem gu1_fnExactStoreNew : (Tryz.prog.globals[1]?).map (·.type) = some 243 := by kernel_rfl
theorem gv2_fnExactStoreNew : Tryz.prog.globalNamed (Rows.fnExactStoreNewSpec.vars.getD 2 default) = some 3 := by kernel_rfl
theorem gu2_fnExactStoreNew : (Tryz.prog.globals[3]?).map (·.type) = some 243 := by kernel_rfl
theorem gv3_fnExactStoreNew : Tryz.prog.globalNamed (Rows.fnExactStoreNewSpec.vars.getD 3 default) = some 2 := by kernel_rfl
theorem gu3_fnExactStoreNew : (Tryz.prog.globals[2]?).map (·.type) = some 243 := by kernel_rfl
theorem door_fnExactStoreNew (os : Os) (args : Array Value) : laidMetH Tryz.prog Rows.fnExactStoreNewRow.laid ((World.doorLaid Tryz.prog 400 os).forCall (fun _ _ => 0) ⟨#[], args, []⟩).memory :=
  laidMetH_of_parts3 (fuel := 8) (laidMet_of_run' 8 (by kernel_rfl) (by kernel_rfl)) (by kernel_rfl) (by kernel_rfl)

set_option maxRecDepth 100000 in
theorem lifted_fnExactStoreNew (os : Os) (started : os.Started) (H : Type) (enc : TypeId × Value → H) :
    ReturnsInHanded {} Tryz.checked os 3 .any (fun w args => (Rows.fnExactStoreNewSpec.pre enc Tryz.prog Tryz.f3 [] false w args ∧ laidMetH Tryz.prog Rows.fnExactStoreNewRow.laid w) ∧ sizedMet enc Tryz.prog Tryz.f3 (OpenSpec.ofChange Rows.fnExactStoreNewSpec) false w args)
      (Rows.fnExactStoreNewSpec.post enc Tryz.prog Tryz.f3 false true false false) := by
  refine returnsInHanded_of_change_and (C := Tryz.checked) (X := fun w _ => laidMetH Tryz.prog Rows.fnExactStoreNewRow.laid w) (fun _ _ _ hh h => h.of_heap hh) own_fnExactStoreNew started (by kernel_rfl) Tryz.func3
    (ChangeSpec.witness_shaped (enc := enc) (C := Tryz.checked) (os := os) (X := fun w _ => laidMetH Tryz.prog Rows.fnExactStoreNewRow.laid w) false (World.doorLaid Tryz.prog 400 os) #[.int .i64 0] 8 rfl (World.shaped_of_RefB (by kernel_rfl) (by kernel_rfl)) (by kernel_rfl) (by kernel_rfl) (by kernel_rfl) (door_fnExactStoreNew os _)) ?_
  intro W base args ds gs before hval0 hW _ _ hL _
  have hval : ∀ (j : Nat) t v, Tryz.f3.params[j]? = some t → args[j]? = some v → Value.okWide Tryz.prog W .any base t v := hval0
  have hW' := hW
  obtain ⟨p, q, hA0, hV, rfl, hfz, hnd⟩ := hW
  have hA : DataW.TrodAll enc Tryz.prog W 0 (fun _ => true) true Tryz.f3.params.toList args.toList ds p := hA0
  rw [Tryz.params3] at hA hval
  obtain ⟨v0, vs0, d0, ds0, p0, q0, hargs, rfl, rfl, h0, r0⟩ := trodAll_cons hA
  obtain ⟨rfl, rfl, rfl⟩ := trodAll_nil r0
  obtain rfl : args = #[v0] := by cases args; simp_all
  obtain ⟨a0, rfl, rfl, rfl, w0⟩ := open_int Tryz.underlying3 (hval 0 3 v0 rfl rfl) h0
  rw [MakeChecks.laidMetH_plain _ _ _ (by kernel_rfl)] at hL
  have e0 : Err W 2 := laid_err hL gl0_fnExactStoreNew gt0_fnExactStoreNew Tryz.underlying243
  have e1 : Err W 0 := laid_err hL.tail gl1_fnExactStoreNew gt1_fnExactStoreNew Tryz.underlying243
  have e2 : Err W 1 := laid_err hL.tail.tail gl2_fnExactStoreNew gt2_fnExactStoreNew Tryz.underlying243
  have e3 : Err W 3 := laid_err hL.tail.tail.tail gl3_fnExactStoreNew gt3_fnExactStoreNew Tryz.underlying243
  obtain ⟨g0, t0, cs0, f0, y0, q0', gs0, qs0, rfl, hg0, ht0, hv0, hd0, rv0, hq0⟩ := trodVars_first hV
  obtain ⟨g1, t1, cs1, f1, y1, q1', gs1, qs1, rfl, hg1, ht1, hv1, hd1, rv1, hq1⟩ := trodVars_first rv0
  obtain ⟨g2, t2, cs2, f2, y2, q2', gs2, qs2, rfl, hg2, ht2, hv2, hd2, rv2, hq2⟩ := trodVars_first rv1
  obtain ⟨g3, t3, cs3, f3, y3, q3', gs3, qs3, rfl, hg3, ht3, hv3, hd3, rv3, hq3⟩ := trodVars_first rv2
  obtain ⟨rfl, rfl⟩ := trodVars_none rv3
  obtain rfl := Option.some.inj (gv0_fnExactStoreNew.symm.trans hg0)
  obtain rfl := Option.some.inj (gu0_fnExactStoreNew.symm.trans ht0)
  obtain ⟨x0, rfl, ix0, rfl, rfl, cx0⟩ := token_of hg0 Tryz.underlying243 hv0 hd0
  obtain rfl := Option.some.inj (gv1_fnExactStoreNew.symm.trans hg1)
  obtain rfl := Option.some.inj (gu1_fnExactStoreNew.symm.trans ht1)
  obtain ⟨x1, rfl, ix1, rfl, rfl, cx1⟩ := token_of hg1 Tryz.underlying243 hv1 hd1
  obtain rfl := Option.some.inj (gv2_fnExactStoreNew.symm.trans hg2)
  obtain rfl := Option.some.inj (gu2_fnExactStoreNew.symm.trans ht2)
  obtain ⟨x2, rfl, ix2, rfl, rfl, cx2⟩ := token_of hg2 Tryz.underlying243 hv2 hd2
  obtain rfl := Option.some.inj (gv3_fnExactStoreNew.symm.trans hg3)
  obtain rfl := Option.some.inj (gu3_fnExactStoreNew.symm.trans ht3)
  obtain ⟨x3, rfl, ix3, rfl, rfl, cx3⟩ := token_of hg3 Tryz.underlying243 hv3 hd3
  clear hA0 hval0
  refine (lawStoreNew_walk a0 W w0 e1 e2 e3 e0 e1.lt e2.lt e3.lt e0.lt).mono fun e W' ⟨he, bel⟩ => ?_
  subst he
  exact ⟨_, rfl, _, _, _, [], _, [.cell 0 0, .cell 1 0, .cell 3 0, .cell 2 0], hW', trodAll_mk1 (shut_bool Tryz.underlying4 _), (trodAll_cons_mk (shut_int Tryz.underlying3 w0) trodAll_mk0), (vars_first enc gv0_fnExactStoreNew gu0_fnExactStoreNew Tryz.underlying243 (var?_below bel gv0_fnExactStoreNew e1.lt hv0) ix0 (vars_first enc gv1_fnExactStoreNew gu1_fnExactStoreNew Tryz.underlying243 (var?_below bel gv1_fnExactStoreNew e2.lt hv1) ix1 (vars_first enc gv2_fnExactStoreNew gu2_fnExactStoreNew Tryz.underlying243 (var?_below bel gv2_fnExactStoreNew e3.lt hv2) ix2 (vars_first enc gv3_fnExactStoreNew gu3_fnExactStoreNew Tryz.underlying243 (var?_below bel gv3_fnExactStoreNew e0.lt hv3) ix3 rfl)))), bel.frame _, fun h => by cases h⟩

theorem said_fnExactStoreNew : Rows.FnExactStoreNewSaid :=
  OpenClaim.holds_of_wide 3 Tryz.f3 rfl rfl rfl rfl rfl rfl rfl ⟨rfl, rfl, rfl, rfl, rfl⟩ rfl rfl rfl rfl rfl (by kernel_rfl) Tryz.func3 (by kernel_rfl)
    (of_decide_eq_true (by kernel_rfl)) (by unfold Func.isWrapper; first | (rw [if_pos (by decide +kernel)]; kernel_rfl) | (rw [if_neg (by decide +kernel)]; exact ⟨rfl, rfl⟩))
    (fun os started H enc _ => lifted_fnExactStoreNew os started H enc)

theorem plain_fnExactStoreNew (f : FuncId) (fn : Func) (hf : Tryz.pinned.checked.prog.funcNamed Rows.fnExactStoreNewRow.func = some f) (hfn : Tryz.pinned.checked.prog.funcs[f]? = some fn) :
    Rows.fnExactStoreNewCard.stood.looks = Tryz.pinned.checked.prog.looks [] ∧ ∀ (j : Nat) t, fn.params[j]? = some t → Tryz.pinned.checked.prog.wantsStandIn t = false := by
  obtain rfl : f = 3 := Option.some.inj ((show Tryz.prog.funcNamed Rows.fnExactStoreNewRow.func = some 3 by kernel_rfl).symm.trans hf) |>.symm
  obtain rfl : fn = Tryz.f3 := (Option.some.inj (Tryz.func3.symm.trans hfn)).symm
  refine ⟨by kernel_rfl, fun j t ht => ?_⟩
  rw [Tryz.params3] at ht
  have hm : t ∈ [3] := by simpa using Array.mem_of_getElem? ht
  have hall : ([3].all fun u => !Tryz.prog.wantsStandIn u) = true := by kernel_rfl
  exact (show Tryz.prog.wantsStandIn t = false by simpa using List.all_eq_true.1 hall t hm)

theorem fnExactStoreNew_card : Rows.FnExactStoreNewCardSaid :=
  Claim7.holds_tied_plain_at .later [] _ _ _ _ said_fnExactStoreNew (fun _ h => by cases h) (by kernel_rfl) (fun _ h => by cases h) fnExactStoreNew_row_tie rfl ⟨rfl, rfl⟩ (by kernel_rfl) rfl plain_fnExactStoreNew (by kernel_rfl)
#print axioms fnExactStoreNew_card
end Go.Proofs.YtmilnejacnaejaaGreatDoor

