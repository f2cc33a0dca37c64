/-
  Proved: called with any arguments, the law FnExactPageBytes returns true, and each argument reads behind the call as it read before; the listed package variables hold what the program's own text lays in them (the card ties this).
-/
import Derived.Test.YtpgogpphobafoaaDoorLwB4
import Derived.Test.YtpgogpphobafoaaDoorDoorV
import Derived.Test.YtpgogpphobafoaaDoorArgG
import Derived.Test.YtpgogpphobafoaaDoorCards
import Derived.Test.YtpgogpphobafoaaDoorTie
import Derived.ProofKit
import Derived.OpenShut
import Derived.ShutString
import Derived.ChangeOld
import Derived.Below
import Derived.LaidMore
import Derived.Stop.Joined
import Derived.WalkSmall
import Derived.SevenTiedAt
namespace Go.Proofs.YtpgogpphobafoaaDoor
open Go.ChangeShapes Go.WideShapes Go.ChangeAt Go.RowKit
open Go.ChangeMaps (open_string shut_string)
set_option linter.unusedVariables false

theorem own_fnExactPageBytes : ownKnob Tryd.prog.godebug = none := by kernel_rfl
theorem laidOut_fnExactPageBytes : laidOutB Tryd.prog = true := by kernel_rfl
theorem gl0_fnExactPageBytes : Tryd.prog.globalNamed ((Rows.fnExactPageBytesRow.laid.map (·.1)).getD 0 default) = some 2 := by kernel_rfl
theorem gt0_fnExactPageBytes : (Tryd.prog.globals[2]?).map (·.type) = some 81 := by kernel_rfl
theorem gl1_fnExactPageBytes : Tryd.prog.globalNamed ((Rows.fnExactPageBytesRow.laid.map (·.1)).getD 1 default) = some 1 := by kernel_rfl
theorem gt1_fnExactPageBytes : (Tryd.prog.globals[1]?).map (·.type) = some 81 := by kernel_rfl
theorem gl2_fnExactPageBytes : Tryd.prog.globalNamed ((Rows.fnExactPageBytesRow.laid.map (·.1)).getD 2 default) = some 0 := by kernel_rfl
theorem gt2_fnExactPageBytes : (Tryd.prog.globals[0]?).map (·.type) = some 81 := by kernel_rfl
theorem gv0_fnExactPageBytes : Tryd.prog.globalNamed (Rows.fnExactPageBytesSpec.vars.getD 0 default) = some 1 := by kernel_rfl
theorem gu0_fnExactPageBytes : (Tryd.prog.globals[1]?).map (·.type) = some 81 := by kernel_rfl
theorem gv1_fnExactPageBytes : Tryd.prog.globalNamed (Rows.fnExactPageBytesSpec.vars.getD 1 default) = some 2 := by kernel_rfl
theorem gu1_fnExactPageBytes : (Tryd.prog.globals[2]?).map (·.type) = some 81 := by kernel_rfl
theorem gv2_fnExactPageBytes : Tryd.prog.globalNamed (Rows.fnExactPageBytesSpec.vars.getD 2 default) = some 0 := by kernel_rfl
theorem gu2_fnExactPageBytes : (Tryd.prog.globals[0]?).map (·.type) = some 81 := by kernel_rfl
theorem door_fnExactPageBytes (os : Os) (args : Array Value) : laidMetH Tryd.prog Rows.fnExactPageBytesRow.laid ((World.doorLaid Tryd.prog 400 os).forCall (fun _ _ => 0) ⟨#[], args, []⟩).memory :=
  laidMetH_of_parts3 (fuel := 8) (laidMet_of_run' 8 (by kernel_rfl) (by kernel_rfl)) (by kernel_rfl) (by kernel_rfl)

set_option maxRecDepth 100000 in
theorem lifted_fnExactPageBytes (os : Os) (started : os.Started) (H : Type) (enc : TypeId × Value → H) :
    ReturnsInHanded {} Tryd.checked os 3 .any (fun w args => (Rows.fnExactPageBytesSpec.pre enc Tryd.prog Tryd.f3 [] false w args ∧ laidMetH Tryd.prog Rows.fnExactPageBytesRow.laid w) ∧ sizedMet enc Tryd.prog Tryd.f3 (OpenSpec.ofChange Rows.fnExactPageBytesSpec) false w args)
      (Rows.fnExactPageBytesSpec.post enc Tryd.prog Tryd.f3 false true false false) := by
  refine returnsInHanded_of_change_and (C := Tryd.checked) (X := fun w _ => laidMetH Tryd.prog Rows.fnExactPageBytesRow.laid w) (fun _ _ _ hh h => h.of_heap hh) own_fnExactPageBytes started (by kernel_rfl) Tryd.func3
    (ChangeSpec.witness_shaped (enc := enc) (C := Tryd.checked) (os := os) (X := fun w _ => laidMetH Tryd.prog Rows.fnExactPageBytesRow.laid w) false (World.doorLaid Tryd.prog 400 os) #[.agg #[.slice none 0 0, .slice none 0 0, .slice none 0 0]] 8 rfl (World.shaped_of_RefB (by kernel_rfl) (by kernel_rfl)) (by kernel_rfl) (by kernel_rfl) (by kernel_rfl) (door_fnExactPageBytes os _)) ?_
  intro W base args ds gs before hval0 hW _ _ hL _
  have hval : ∀ (j : Nat) t v, Tryd.f3.params[j]? = some t → args[j]? = some v → Value.okWide Tryd.prog W .any base t v := hval0
  have hW' := hW
  obtain ⟨p, q, hA0, hV, rfl, hfz, hnd⟩ := hW
  have hA : DataW.TrodAll enc Tryd.prog W 0 (fun _ => true) true Tryd.f3.params.toList args.toList ds p := hA0
  rw [Tryd.params3] at hA hval
  obtain ⟨v0, vs0, d0, ds0, p0, q0, hargs, rfl, rfl, h0, r0⟩ := trodAll_cons hA
  obtain ⟨rfl, rfl, rfl⟩ := trodAll_nil r0
  obtain rfl : args = #[v0] := by cases args; simp_all
  have k0 := h0
  have lt0 : ∀ x ∈ p0, x.block < W.heap.size := by obtain ⟨m, hm⟩ := k0; exact DataW.trod_lt m _ _ _ hm
  obtain ⟨ka0, kn0, kc0, va0, vn0, vc0, ia0, jn0, ic0, pg0, rfl, w0⟩ := open_page (hval 0 25 v0 rfl rfl) h0
  rw [MakeChecks.laidMetH_plain _ _ _ (by kernel_rfl)] at hL
  have e0 : Err W 2 := laid_err hL gl0_fnExactPageBytes gt0_fnExactPageBytes Tryd.underlying81
  have e1 : Err W 1 := laid_err hL.tail gl1_fnExactPageBytes gt1_fnExactPageBytes Tryd.underlying81
  have e2 : Err W 0 := laid_err hL.tail.tail gl2_fnExactPageBytes gt2_fnExactPageBytes Tryd.underlying81
  obtain ⟨g0, t0, cs0, f0, y0, q0', gs0, qs0, rfl, hg0, ht0, hv0, hd0, rv0, hq0⟩ := trodVars_first hV
  obtain ⟨g1, t1, cs1, f1, y1, q1', gs1, qs1, rfl, hg1, ht1, hv1, hd1, rv1, hq1⟩ := trodVars_first rv0
  obtain ⟨g2, t2, cs2, f2, y2, q2', gs2, qs2, rfl, hg2, ht2, hv2, hd2, rv2, hq2⟩ := trodVars_first rv1
  obtain ⟨rfl, rfl⟩ := trodVars_none rv2
  obtain rfl := Option.some.inj (gv0_fnExactPageBytes.symm.trans hg0)
  obtain rfl := Option.some.inj (gu0_fnExactPageBytes.symm.trans ht0)
  obtain ⟨x0, rfl, ix0, rfl, rfl, cx0⟩ := token_of hg0 Tryd.underlying81 hv0 hd0
  obtain rfl := Option.some.inj (gv1_fnExactPageBytes.symm.trans hg1)
  obtain rfl := Option.some.inj (gu1_fnExactPageBytes.symm.trans ht1)
  obtain ⟨x1, rfl, ix1, rfl, rfl, cx1⟩ := token_of hg1 Tryd.underlying81 hv1 hd1
  obtain rfl := Option.some.inj (gv2_fnExactPageBytes.symm.trans hg2)
  obtain rfl := Option.some.inj (gu2_fnExactPageBytes.symm.trans ht2)
  obtain ⟨x2, rfl, ix2, rfl, rfl, cx2⟩ := token_of hg2 Tryd.underlying81 hv2 hd2
  clear hA0 hval0
  refine (lawPageBytes_walk ka0 kn0 kc0 va0 vn0 vc0 ia0 jn0 ic0 pg0 W w0 e1 e0 e2 e1.lt e0.lt e2.lt).mono fun e W' ⟨he, bel⟩ => ?_
  subst he
  exact ⟨_, rfl, _, _, _, [], _, [.cell 1 0, .cell 2 0, .cell 0 0], hW', trodAll_mk1 (shut_bool Tryd.underlying4 _), (trodAll_cons_mk (Below.trod laidOut_fnExactPageBytes (by kernel_rfl) (of_decide_eq_true (by kernel_rfl)) k0 bel lt0) trodAll_mk0), (vars_first enc gv0_fnExactPageBytes gu0_fnExactPageBytes Tryd.underlying81 (var?_below bel gv0_fnExactPageBytes e1.lt hv0) ix0 (vars_first enc gv1_fnExactPageBytes gu1_fnExactPageBytes Tryd.underlying81 (var?_below bel gv1_fnExactPageBytes e0.lt hv1) ix1 (vars_first enc gv2_fnExactPageBytes gu2_fnExactPageBytes Tryd.underlying81 (var?_below bel gv2_fnExactPageBytes e2.lt hv2) ix2 rfl))), bel.frame _, fun h => by cases h⟩

theorem said_fnExactPageBytes : Rows.FnExactPageBytesSaid :=
  OpenClaim.holds_of_wide 3 Tryd.f3 rfl rfl rfl rfl rfl rfl rfl ⟨rfl, rfl, rfl, rfl, rfl⟩ rfl rfl rfl rfl rfl (by kernel_rfl) Tryd.func3 (by kernel_rfl)
    (of_decide_eq_true (by kernel_rfl)) (by unfold Func.isWrapper; first | (rw [if_pos (by decide +kernel)]; kernel_rfl) | (rw [if_neg (by decide +kernel)]; exact ⟨rfl, rfl⟩))
    (fun os started H enc _ => lifted_fnExactPageBytes os started H enc)

theorem plain_fnExactPageBytes (f : FuncId) (fn : Func) (hf : Tryd.pinned.checked.prog.funcNamed Rows.fnExactPageBytesRow.func = some f) (hfn : Tryd.pinned.checked.prog.funcs[f]? = some fn) :
    Rows.fnExactPageBytesCard.stood.looks = Tryd.pinned.checked.prog.looks [] ∧ ∀ (j : Nat) t, fn.params[j]? = some t → Tryd.pinned.checked.prog.wantsStandIn t = false := by
  obtain rfl : f = 3 := Option.some.inj ((show Tryd.prog.funcNamed Rows.fnExactPageBytesRow.func = some 3 by kernel_rfl).symm.trans hf) |>.symm
  obtain rfl : fn = Tryd.f3 := (Option.some.inj (Tryd.func3.symm.trans hfn)).symm
  refine ⟨by kernel_rfl, fun j t ht => ?_⟩
  rw [Tryd.params3] at ht
  have hm : t ∈ [25] := by simpa using Array.mem_of_getElem? ht
  have hall : ([25].all fun u => !Tryd.prog.wantsStandIn u) = true := by kernel_rfl
  exact (show Tryd.prog.wantsStandIn t = false by simpa using List.all_eq_true.1 hall t hm)

theorem fnExactPageBytes_card : Rows.FnExactPageBytesCardSaid :=
  Claim7.holds_tied_plain_at .later [] _ _ _ _ said_fnExactPageBytes (fun _ h => by cases h) (by kernel_rfl) (fun _ h => by cases h) fnExactPageBytes_row_tie rfl ⟨rfl, rfl⟩ (by kernel_rfl) rfl plain_fnExactPageBytes (by kernel_rfl)
#print axioms fnExactPageBytes_card
end Go.Proofs.YtpgogpphobafoaaDoor

