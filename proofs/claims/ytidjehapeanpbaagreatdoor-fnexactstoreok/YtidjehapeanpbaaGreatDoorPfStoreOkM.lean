/-
  Proved: called with any arguments, the law FnExactStoreOk returns true, and each argument reads behind the call as it read before; the listed package variables hold what the program's own text lays in them (the card ties this).
-/
import Derived.Test.YtidjehapeanpbaaGreatDoorMk8
import Derived.Test.YtidjehapeanpbaaGreatDoorCards
import Derived.Test.YtidjehapeanpbaaGreatDoorTie
import Derived.ProofKit
import Derived.OpenShut
import Derived.ShutString
import Derived.ChangeOld
import Derived.Below
import Derived.LaidMore
import Derived.Stop.Joined
import Derived.WalkSmall
import Derived.SevenTiedAt
namespace Go.Proofs.YtidjehapeanpbaaGreatDoor
open Go.ChangeShapes Go.WideShapes Go.ChangeAt Go.RowKit
open Go.ChangeMaps (open_string shut_string)
set_option linter.unusedVariables false

theorem own_fnExactStoreOk : ownKnob Tryz.prog.godebug = none := by kernel_rfl
theorem laidOut_fnExactStoreOk : laidOutB Tryz.prog = true := by kernel_rfl
theorem gl0_fnExactStoreOk : Tryz.prog.globalNamed ((Rows.fnExactStoreOkRow.laid.map (·.1)).getD 0 default) = some 3 := by kernel_rfl
theorem gt0_fnExactStoreOk : (Tryz.prog.globals[3]?).map (·.type) = some 206 := by kernel_rfl
theorem gl1_fnExactStoreOk : Tryz.prog.globalNamed ((Rows.fnExactStoreOkRow.laid.map (·.1)).getD 1 default) = some 0 := by kernel_rfl
theorem gt1_fnExactStoreOk : (Tryz.prog.globals[0]?).map (·.type) = some 206 := by kernel_rfl
theorem gl2_fnExactStoreOk : Tryz.prog.globalNamed ((Rows.fnExactStoreOkRow.laid.map (·.1)).getD 2 default) = some 1 := by kernel_rfl
theorem gt2_fnExactStoreOk : (Tryz.prog.globals[1]?).map (·.type) = some 206 := by kernel_rfl
theorem gl3_fnExactStoreOk : Tryz.prog.globalNamed ((Rows.fnExactStoreOkRow.laid.map (·.1)).getD 3 default) = some 2 := by kernel_rfl
theorem gt3_fnExactStoreOk : (Tryz.prog.globals[2]?).map (·.type) = some 206 := by kernel_rfl
theorem gv0_fnExactStoreOk : Tryz.prog.globalNamed (Rows.fnExactStoreOkSpec.vars.getD 0 default) = some 0 := by kernel_rfl
theorem gu0_fnExactStoreOk : (Tryz.prog.globals[0]?).map (·.type) = some 206 := by kernel_rfl
theorem gv1_fnExactStoreOk : Tryz.prog.globalNamed (Rows.fnExactStoreOkSpec.vars.getD 1 default) = some 1 := by kernel_rfl
theorem gu1_fnExactStoreOk : (Tryz.prog.globals[1]?).map (·.type) = some 206 := by kernel_rfl
theorem gv2_fnExactStoreOk : Tryz.prog.globalNamed (Rows.fnExactStoreOkSpec.vars.getD 2 default) = some 2 := by kernel_rfl
theorem gu2_fnExactStoreOk : (Tryz.prog.globals[2]?).map (·.type) = some 206 := by kernel_rfl
theorem gv3_fnExactStoreOk : Tryz.prog.globalNamed (Rows.fnExactStoreOkSpec.vars.getD 3 default) = some 3 := by kernel_rfl
theorem gu3_fnExactStoreOk : (Tryz.prog.globals[3]?).map (·.type) = some 206 := by kernel_rfl
theorem door_fnExactStoreOk (os : Os) (args : Array Value) : laidMetH Tryz.prog Rows.fnExactStoreOkRow.laid ((World.doorLaid Tryz.prog 400 os).forCall (fun _ _ => 0) ⟨#[], args, []⟩).memory :=
  laidMetH_of_parts3 (fuel := 8) (laidMet_of_run' 8 (by kernel_rfl) (by kernel_rfl)) (by kernel_rfl) (by kernel_rfl)

set_option maxRecDepth 100000 in
theorem lifted_fnExactStoreOk (os : Os) (started : os.Started) (H : Type) (enc : TypeId × Value → H) :
    ReturnsInHanded {} Tryz.checked os 4 .any (fun w args => (Rows.fnExactStoreOkSpec.pre enc Tryz.prog Tryz.f4 [] false w args ∧ laidMetH Tryz.prog Rows.fnExactStoreOkRow.laid w) ∧ sizedMet enc Tryz.prog Tryz.f4 (OpenSpec.ofChange Rows.fnExactStoreOkSpec) false w args)
      (Rows.fnExactStoreOkSpec.post enc Tryz.prog Tryz.f4 false true false false) := by
  refine returnsInHanded_of_change_and (C := Tryz.checked) (X := fun w _ => laidMetH Tryz.prog Rows.fnExactStoreOkRow.laid w) (fun _ _ _ hh h => h.of_heap hh) own_fnExactStoreOk started (by kernel_rfl) Tryz.func4
    (ChangeSpec.witness_shaped (enc := enc) (C := Tryz.checked) (os := os) (X := fun w _ => laidMetH Tryz.prog Rows.fnExactStoreOkRow.laid w) false (World.doorLaid Tryz.prog 400 os) #[.agg #[.slice none 0 0, .slice none 0 0, .int .i64 0, .slice none 0 0, .slice none 0 0]] 8 rfl (World.shaped_of_RefB (by kernel_rfl) (by kernel_rfl)) (by kernel_rfl) (by kernel_rfl) (by kernel_rfl) (door_fnExactStoreOk os _)) ?_
  intro W base args ds gs before hval0 hW _ _ hL _
  have hval : ∀ (j : Nat) t v, Tryz.f4.params[j]? = some t → args[j]? = some v → Value.okWide Tryz.prog W .any base t v := hval0
  have hW' := hW
  obtain ⟨p, q, hA0, hV, rfl, hfz, hnd⟩ := hW
  have hA : DataW.TrodAll enc Tryz.prog W 0 (fun _ => true) true Tryz.f4.params.toList args.toList ds p := hA0
  rw [Tryz.params4] at hA hval
  obtain ⟨v0, vs0, d0, ds0, p0, q0, hargs, rfl, rfl, h0, r0⟩ := trodAll_cons hA
  obtain ⟨rfl, rfl, rfl⟩ := trodAll_nil r0
  obtain rfl : args = #[v0] := by cases args; simp_all
  have k0 := h0
  have lt0 : ∀ x ∈ p0, x.block < W.heap.size := by obtain ⟨m, hm⟩ := k0; exact DataW.trod_lt m _ _ _ hm
  obtain ⟨xar0, xnr0, xcr0, yar0, ynr0, ycr0, nar0, nnr0, ncr0, par0, pnr0, pcr0, gr0, dkr0, lsr0, rfl, w0⟩ := open_store (hval 0 49 v0 rfl rfl) h0
  rw [MakeChecks.laidMetH_plain _ _ _ (by kernel_rfl)] at hL
  have e0 : Err W 3 := laid_err hL gl0_fnExactStoreOk gt0_fnExactStoreOk Tryz.underlying206
  have e1 : Err W 0 := laid_err hL.tail gl1_fnExactStoreOk gt1_fnExactStoreOk Tryz.underlying206
  have e2 : Err W 1 := laid_err hL.tail.tail gl2_fnExactStoreOk gt2_fnExactStoreOk Tryz.underlying206
  have e3 : Err W 2 := laid_err hL.tail.tail.tail gl3_fnExactStoreOk gt3_fnExactStoreOk Tryz.underlying206
  obtain ⟨g0, t0, cs0, f0, y0, q0', gs0, qs0, rfl, hg0, ht0, hv0, hd0, rv0, hq0⟩ := trodVars_first hV
  obtain ⟨g1, t1, cs1, f1, y1, q1', gs1, qs1, rfl, hg1, ht1, hv1, hd1, rv1, hq1⟩ := trodVars_first rv0
  obtain ⟨g2, t2, cs2, f2, y2, q2', gs2, qs2, rfl, hg2, ht2, hv2, hd2, rv2, hq2⟩ := trodVars_first rv1
  obtain ⟨g3, t3, cs3, f3, y3, q3', gs3, qs3, rfl, hg3, ht3, hv3, hd3, rv3, hq3⟩ := trodVars_first rv2
  obtain ⟨rfl, rfl⟩ := trodVars_none rv3
  obtain rfl := Option.some.inj (gv0_fnExactStoreOk.symm.trans hg0)
  obtain rfl := Option.some.inj (gu0_fnExactStoreOk.symm.trans ht0)
  obtain ⟨x0, rfl, ix0, rfl, rfl, cx0⟩ := token_of hg0 Tryz.underlying206 hv0 hd0
  obtain rfl := Option.some.inj (gv1_fnExactStoreOk.symm.trans hg1)
  obtain rfl := Option.some.inj (gu1_fnExactStoreOk.symm.trans ht1)
  obtain ⟨x1, rfl, ix1, rfl, rfl, cx1⟩ := token_of hg1 Tryz.underlying206 hv1 hd1
  obtain rfl := Option.some.inj (gv2_fnExactStoreOk.symm.trans hg2)
  obtain rfl := Option.some.inj (gu2_fnExactStoreOk.symm.trans ht2)
  obtain ⟨x2, rfl, ix2, rfl, rfl, cx2⟩ := token_of hg2 Tryz.underlying206 hv2 hd2
  obtain rfl := Option.some.inj (gv3_fnExactStoreOk.symm.trans hg3)
  obtain rfl := Option.some.inj (gu3_fnExactStoreOk.symm.trans ht3)
  obtain ⟨x3, rfl, ix3, rfl, rfl, cx3⟩ := token_of hg3 Tryz.underlying206 hv3 hd3
  clear hA0 hval0
  refine (lawStoreOk_walk xar0 xnr0 xcr0 yar0 ynr0 ycr0 nar0 nnr0 ncr0 par0 pnr0 pcr0 gr0 dkr0 lsr0 W w0 e1 e2 e3 e0 e1.lt e2.lt e3.lt e0.lt).mono fun e W' ⟨he, bel⟩ => ?_
  subst he
  exact ⟨_, rfl, _, _, _, [], _, [.cell 0 0, .cell 1 0, .cell 2 0, .cell 3 0], hW', trodAll_mk1 (shut_bool Tryz.underlying4 _), (trodAll_cons_mk (Below.trod laidOut_fnExactStoreOk (by kernel_rfl) (of_decide_eq_true (by kernel_rfl)) k0 bel lt0) trodAll_mk0), (vars_first enc gv0_fnExactStoreOk gu0_fnExactStoreOk Tryz.underlying206 (var?_below bel gv0_fnExactStoreOk e1.lt hv0) ix0 (vars_first enc gv1_fnExactStoreOk gu1_fnExactStoreOk Tryz.underlying206 (var?_below bel gv1_fnExactStoreOk e2.lt hv1) ix1 (vars_first enc gv2_fnExactStoreOk gu2_fnExactStoreOk Tryz.underlying206 (var?_below bel gv2_fnExactStoreOk e3.lt hv2) ix2 (vars_first enc gv3_fnExactStoreOk gu3_fnExactStoreOk Tryz.underlying206 (var?_below bel gv3_fnExactStoreOk e0.lt hv3) ix3 rfl)))), bel.frame _, fun h => by cases h⟩

theorem said_fnExactStoreOk : Rows.FnExactStoreOkSaid :=
  OpenClaim.holds_of_wide 4 Tryz.f4 rfl rfl rfl rfl rfl rfl rfl ⟨rfl, rfl, rfl, rfl, rfl⟩ rfl rfl rfl rfl rfl (by kernel_rfl) Tryz.func4 (by kernel_rfl)
    (of_decide_eq_true (by kernel_rfl)) (by unfold Func.isWrapper; first | (rw [if_pos (by decide +kernel)]; kernel_rfl) | (rw [if_neg (by decide +kernel)]; exact ⟨rfl, rfl⟩))
    (fun os started H enc _ => lifted_fnExactStoreOk os started H enc)

theorem plain_fnExactStoreOk (f : FuncId) (fn : Func) (hf : Tryz.pinned.checked.prog.funcNamed Rows.fnExactStoreOkRow.func = some f) (hfn : Tryz.pinned.checked.prog.funcs[f]? = some fn) :
    Rows.fnExactStoreOkCard.stood.looks = Tryz.pinned.checked.prog.looks [] ∧ ∀ (j : Nat) t, fn.params[j]? = some t → Tryz.pinned.checked.prog.wantsStandIn t = false := by
  obtain rfl : f = 4 := Option.some.inj ((show Tryz.prog.funcNamed Rows.fnExactStoreOkRow.func = some 4 by kernel_rfl).symm.trans hf) |>.symm
  obtain rfl : fn = Tryz.f4 := (Option.some.inj (Tryz.func4.symm.trans hfn)).symm
  refine ⟨by kernel_rfl, fun j t ht => ?_⟩
  rw [Tryz.params4] at ht
  have hm : t ∈ [49] := by simpa using Array.mem_of_getElem? ht
  have hall : ([49].all fun u => !Tryz.prog.wantsStandIn u) = true := by kernel_rfl
  exact (show Tryz.prog.wantsStandIn t = false by simpa using List.all_eq_true.1 hall t hm)

theorem fnExactStoreOk_card : Rows.FnExactStoreOkCardSaid :=
  Claim7.holds_tied_plain_at .later [] _ _ _ _ said_fnExactStoreOk (fun _ h => by cases h) (by kernel_rfl) (fun _ h => by cases h) fnExactStoreOk_row_tie rfl ⟨rfl, rfl⟩ (by kernel_rfl) rfl plain_fnExactStoreOk (by kernel_rfl)
#print axioms fnExactStoreOk_card
end Go.Proofs.YtidjehapeanpbaaGreatDoor

