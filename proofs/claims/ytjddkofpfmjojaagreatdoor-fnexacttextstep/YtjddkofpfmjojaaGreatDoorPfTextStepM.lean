/-
  Proved: called with any arguments, the law FnExactTextStep returns true, and each argument reads behind the call as it read before; the listed package variables hold what the program's own text lays in them (the card ties this).
-/
import Derived.Test.YtjddkofpfmjojaaGreatDoorMt5
import Derived.Test.YtjddkofpfmjojaaGreatDoorMt1
import Derived.Test.YtjddkofpfmjojaaGreatDoorCards
import Derived.Test.YtjddkofpfmjojaaGreatDoorTie
import Derived.ProofKit
import Derived.OpenShut
import Derived.ShutString
import Derived.ChangeOld
import Derived.Below
import Derived.LaidMore
import Derived.Stop.Joined
import Derived.WalkSmall
import Derived.SevenTiedAt
import Derived.Lib.LaidTab
import Derived.Stop.LaidErr
namespace Go.Proofs.YtjddkofpfmjojaaGreatDoor
open Go.ChangeShapes Go.WideShapes Go.ChangeAt Go.RowKit
open Go.ChangeMaps (open_string shut_string)
set_option linter.unusedVariables false

theorem own_fnExactTextStep : ownKnob Tryz.prog.godebug = none := by kernel_rfl
theorem laidOut_fnExactTextStep : laidOutB Tryz.prog = true := by kernel_rfl
theorem gl2_fnExactTextStep : Tryz.prog.globalNamed ((Rows.fnExactTextStepRow.laid.map (·.1)).getD 2 default) = some 5 := by kernel_rfl
theorem gt2_fnExactTextStep : (Tryz.prog.globals[5]?).map (·.type) = some 137 := by kernel_rfl
theorem pow_fnExactTextStep : Rows.laid_internal_strconv_uint64pow10 (H := Unit) = Lib.tabData .u64 Lib.pow10Tab := by kernel_rfl
theorem gl3_fnExactTextStep : Tryz.prog.globalNamed ((Rows.fnExactTextStepRow.laid.map (·.1)).getD 3 default) = some 1 := by kernel_rfl
theorem gt3_fnExactTextStep : (Tryz.prog.globals[1]?).map (·.type) = some 76 := by kernel_rfl
theorem gl4_fnExactTextStep : Tryz.prog.globalNamed ((Rows.fnExactTextStepRow.laid.map (·.1)).getD 4 default) = some 0 := by kernel_rfl
theorem gt4_fnExactTextStep : (Tryz.prog.globals[0]?).map (·.type) = some 76 := by kernel_rfl
theorem gl5_fnExactTextStep : Tryz.prog.globalNamed ((Rows.fnExactTextStepRow.laid.map (·.1)).getD 5 default) = some 3 := by kernel_rfl
theorem gt5_fnExactTextStep : (Tryz.prog.globals[3]?).map (·.type) = some 76 := by kernel_rfl
theorem gl6_fnExactTextStep : Tryz.prog.globalNamed ((Rows.fnExactTextStepRow.laid.map (·.1)).getD 6 default) = some 2 := by kernel_rfl
theorem gt6_fnExactTextStep : (Tryz.prog.globals[2]?).map (·.type) = some 76 := by kernel_rfl
theorem gv0_fnExactTextStep : Tryz.prog.globalNamed (Rows.fnExactTextStepSpec.vars.getD 0 default) = some 3 := by kernel_rfl
theorem gu0_fnExactTextStep : (Tryz.prog.globals[3]?).map (·.type) = some 76 := by kernel_rfl
theorem gv1_fnExactTextStep : Tryz.prog.globalNamed (Rows.fnExactTextStepSpec.vars.getD 1 default) = some 2 := by kernel_rfl
theorem gu1_fnExactTextStep : (Tryz.prog.globals[2]?).map (·.type) = some 76 := by kernel_rfl
theorem door_fnExactTextStep (os : Os) (args : Array Value) : laidMetH Tryz.prog Rows.fnExactTextStepRow.laid ((World.doorLaid Tryz.prog 400 os).forCall (fun _ _ => 0) ⟨#[], args, []⟩).memory :=
  laidMetH_of_parts3 (fuel := 8) (laidMet_of_run' 8 (by kernel_rfl) (by kernel_rfl)) (by kernel_rfl) (by kernel_rfl)

set_option maxRecDepth 100000 in
theorem lifted_fnExactTextStep (os : Os) (started : os.Started) (H : Type) (enc : TypeId × Value → H) :
    ReturnsInHanded {} Tryz.checked os 3 .any (fun w args => (Rows.fnExactTextStepSpec.pre enc Tryz.prog Tryz.f3 [] false w args ∧ laidMetH Tryz.prog Rows.fnExactTextStepRow.laid w) ∧ sizedMet enc Tryz.prog Tryz.f3 (OpenSpec.ofChange Rows.fnExactTextStepSpec) false w args)
      (Rows.fnExactTextStepSpec.post enc Tryz.prog Tryz.f3 false true false false) := by
  refine returnsInHanded_of_change_and (C := Tryz.checked) (X := fun w _ => laidMetH Tryz.prog Rows.fnExactTextStepRow.laid w) (fun _ _ _ hh h => h.of_heap hh) own_fnExactTextStep started (by kernel_rfl) Tryz.func3
    (ChangeSpec.witness_shaped (enc := enc) (C := Tryz.checked) (os := os) (X := fun w _ => laidMetH Tryz.prog Rows.fnExactTextStepRow.laid w) false (World.doorLaid Tryz.prog 400 os) #[.string ByteArray.empty] 8 rfl (World.shaped_of_RefB (by kernel_rfl) (by kernel_rfl)) (by kernel_rfl) (by kernel_rfl) (by kernel_rfl) (door_fnExactTextStep os _)) ?_
  intro W base args ds gs before hval0 hW _ _ hL _
  have hval : ∀ (j : Nat) t v, Tryz.f3.params[j]? = some t → args[j]? = some v → Value.okWide Tryz.prog W .any base t v := hval0
  have hW' := hW
  obtain ⟨p, q, hA0, hV, rfl, hfz, hnd⟩ := hW
  have hA : DataW.TrodAll enc Tryz.prog W 0 (fun _ => true) true Tryz.f3.params.toList args.toList ds p := hA0
  rw [Tryz.params3] at hA hval
  obtain ⟨v0, vs0, d0, ds0, p0, q0, hargs, rfl, rfl, h0, r0⟩ := trodAll_cons hA
  obtain ⟨rfl, rfl, rfl⟩ := trodAll_nil r0
  obtain rfl : args = #[v0] := by cases args; simp_all
  obtain ⟨a0, rfl, rfl, rfl, w0⟩ := open_string Tryz.underlying9 (hval 0 9 v0 rfl rfl) h0
  rw [MakeChecks.laidMetH_plain _ _ _ (by kernel_rfl)] at hL
  have tb : Tab W := Lib.tabIs_of_head gl2_fnExactTextStep gt2_fnExactTextStep Tryz.underlying137 Tryz.underlying110 (by kernel_rfl) (by kernel_rfl) (by rw [← pow_fnExactTextStep]; exact hL.tail.tail)
  have tl : 5 < W.heap.size := block_lt (tb.cell gl2_fnExactTextStep 0 (by decide))
  have e3 : Err W 1 := laid_err hL.tail.tail.tail gl3_fnExactTextStep gt3_fnExactTextStep Tryz.underlying76
  have e4 : Err W 0 := laid_err hL.tail.tail.tail.tail gl4_fnExactTextStep gt4_fnExactTextStep Tryz.underlying76
  have e5 : Err W 3 := laid_err hL.tail.tail.tail.tail.tail gl5_fnExactTextStep gt5_fnExactTextStep Tryz.underlying76
  have e6 : Err W 2 := laid_err hL.tail.tail.tail.tail.tail.tail gl6_fnExactTextStep gt6_fnExactTextStep Tryz.underlying76
  obtain ⟨g0, t0, cs0, f0, y0, q0', g1, t1, cs1, f1, y1, q1', rfl, hg0, ht0, hv0, hd0, hg1, ht1, hv1, hd1, hq⟩ := trodVars_two hV
  obtain rfl := Option.some.inj (gv0_fnExactTextStep.symm.trans hg0)
  obtain rfl := Option.some.inj (gu0_fnExactTextStep.symm.trans ht0)
  obtain ⟨x0, rfl, ix0, rfl, rfl, cx0⟩ := token_of hg0 Tryz.underlying76 hv0 hd0
  obtain rfl := Option.some.inj (gv1_fnExactTextStep.symm.trans hg1)
  obtain rfl := Option.some.inj (gu1_fnExactTextStep.symm.trans ht1)
  obtain ⟨x1, rfl, ix1, rfl, rfl, cx1⟩ := token_of hg1 Tryz.underlying76 hv1 hd1
  clear hA0 hval0
  refine (lawTextStep_door a0 W w0 tb e5 e6 e3 e4 e5.lt e6.lt e3.lt e4.lt tl).mono fun e W' ⟨he, bel⟩ => ?_
  subst he
  exact ⟨_, rfl, _, _, _, [], _, [.cell 3 0, .cell 2 0], hW', trodAll_mk1 (shut_bool Tryz.underlying4 _), (trodAll_cons_mk (shut_string Tryz.underlying9 w0) trodAll_mk0), vars_read2 enc gv0_fnExactTextStep gu0_fnExactTextStep Tryz.underlying76 (var?_below bel gv0_fnExactTextStep e5.lt hv0) ix0 gv1_fnExactTextStep gu1_fnExactTextStep Tryz.underlying76 (var?_below bel gv1_fnExactTextStep e6.lt hv1) ix1 _, bel.frame _, fun h => by cases h⟩

theorem said_fnExactTextStep : Rows.FnExactTextStepSaid :=
  OpenClaim.holds_of_wide 3 Tryz.f3 rfl rfl rfl rfl rfl rfl rfl ⟨rfl, rfl, rfl, rfl, rfl⟩ rfl rfl rfl rfl rfl (by kernel_rfl) Tryz.func3 (by kernel_rfl)
    (of_decide_eq_true (by kernel_rfl)) (by unfold Func.isWrapper; first | (rw [if_pos (by decide +kernel)]; kernel_rfl) | (rw [if_neg (by decide +kernel)]; exact ⟨rfl, rfl⟩))
    (fun os started H enc _ => lifted_fnExactTextStep os started H enc)

theorem plain_fnExactTextStep (f : FuncId) (fn : Func) (hf : Tryz.pinned.checked.prog.funcNamed Rows.fnExactTextStepRow.func = some f) (hfn : Tryz.pinned.checked.prog.funcs[f]? = some fn) :
    Rows.fnExactTextStepCard.stood.looks = Tryz.pinned.checked.prog.looks [] ∧ ∀ (j : Nat) t, fn.params[j]? = some t → Tryz.pinned.checked.prog.wantsStandIn t = false := by
  obtain rfl : f = 3 := Option.some.inj ((show Tryz.prog.funcNamed Rows.fnExactTextStepRow.func = some 3 by kernel_rfl).symm.trans hf) |>.symm
  obtain rfl : fn = Tryz.f3 := (Option.some.inj (Tryz.func3.symm.trans hfn)).symm
  refine ⟨by kernel_rfl, fun j t ht => ?_⟩
  rw [Tryz.params3] at ht
  have hm : t ∈ [9] := by simpa using Array.mem_of_getElem? ht
  have hall : ([9].all fun u => !Tryz.prog.wantsStandIn u) = true := by kernel_rfl
  exact (show Tryz.prog.wantsStandIn t = false by simpa using List.all_eq_true.1 hall t hm)

theorem fnExactTextStep_card : Rows.FnExactTextStepCardSaid :=
  Claim7.holds_tied_plain_at .later [] _ _ _ _ said_fnExactTextStep (fun _ h => by cases h) (by kernel_rfl) (fun _ h => by cases h) fnExactTextStep_row_tie rfl ⟨rfl, rfl⟩ (by kernel_rfl) rfl plain_fnExactTextStep (by kernel_rfl)
#print axioms fnExactTextStep_card
end Go.Proofs.YtjddkofpfmjojaaGreatDoor

