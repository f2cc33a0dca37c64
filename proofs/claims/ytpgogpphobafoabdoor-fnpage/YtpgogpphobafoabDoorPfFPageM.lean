/-
  Proved: called with any arguments, the law FnPage returns true, and each argument reads behind the call as it read before; the listed package variables hold what the program's own text lays in them (the card ties this).
-/
import Derived.Test.YtpgogpphobafoabDoorMl6
import Derived.Test.YtpgogpphobafoabDoorMl5
import Derived.Test.YtpgogpphobafoabDoorCards
import Derived.Test.YtpgogpphobafoabDoorTie
import Derived.ProofKit
import Derived.OpenShut
import Derived.ShutString
import Derived.ChangeOld
import Derived.Below
import Derived.LaidMore
import Derived.Stop.Joined
import Derived.WalkSmall
import Derived.SevenTiedAt
namespace Go.Proofs.YtpgogpphobafoabDoor
open Go.ChangeShapes Go.WideShapes Go.ChangeAt Go.RowKit
open Go.ChangeMaps (open_string shut_string)
set_option linter.unusedVariables false

theorem own_fnPage : ownKnob Tryd.prog.godebug = none := by kernel_rfl
theorem laidOut_fnPage : laidOutB Tryd.prog = true := by kernel_rfl
theorem gl0_fnPage : Tryd.prog.globalNamed ((Rows.fnPageRow.laid.map (·.1)).getD 0 default) = some 2 := by kernel_rfl
theorem gt0_fnPage : (Tryd.prog.globals[2]?).map (·.type) = some 74 := by kernel_rfl
theorem gl1_fnPage : Tryd.prog.globalNamed ((Rows.fnPageRow.laid.map (·.1)).getD 1 default) = some 0 := by kernel_rfl
theorem gt1_fnPage : (Tryd.prog.globals[0]?).map (·.type) = some 74 := by kernel_rfl
theorem gl2_fnPage : Tryd.prog.globalNamed ((Rows.fnPageRow.laid.map (·.1)).getD 2 default) = some 1 := by kernel_rfl
theorem gt2_fnPage : (Tryd.prog.globals[1]?).map (·.type) = some 74 := by kernel_rfl
theorem gl3_fnPage : Tryd.prog.globalNamed ((Rows.fnPageRow.laid.map (·.1)).getD 3 default) = some 3 := by kernel_rfl
theorem gt3_fnPage : (Tryd.prog.globals[3]?).map (·.type) = some 74 := by kernel_rfl
theorem gv0_fnPage : Tryd.prog.globalNamed (Rows.fnPageSpec.vars.getD 0 default) = some 0 := by kernel_rfl
theorem gu0_fnPage : (Tryd.prog.globals[0]?).map (·.type) = some 74 := by kernel_rfl
theorem gv1_fnPage : Tryd.prog.globalNamed (Rows.fnPageSpec.vars.getD 1 default) = some 2 := by kernel_rfl
theorem gu1_fnPage : (Tryd.prog.globals[2]?).map (·.type) = some 74 := by kernel_rfl
theorem gv2_fnPage : Tryd.prog.globalNamed (Rows.fnPageSpec.vars.getD 2 default) = some 1 := by kernel_rfl
theorem gu2_fnPage : (Tryd.prog.globals[1]?).map (·.type) = some 74 := by kernel_rfl
theorem gv3_fnPage : Tryd.prog.globalNamed (Rows.fnPageSpec.vars.getD 3 default) = some 3 := by kernel_rfl
theorem gu3_fnPage : (Tryd.prog.globals[3]?).map (·.type) = some 74 := by kernel_rfl
theorem door_fnPage (os : Os) (args : Array Value) : laidMetH Tryd.prog Rows.fnPageRow.laid ((World.doorLaid Tryd.prog 400 os).forCall (fun _ _ => 0) ⟨#[], args, []⟩).memory :=
  laidMetH_of_parts3 (fuel := 8) (laidMet_of_run' 8 (by kernel_rfl) (by kernel_rfl)) (by kernel_rfl) (by kernel_rfl)

set_option maxRecDepth 100000 in
theorem lifted_fnPage (os : Os) (started : os.Started) (H : Type) (enc : TypeId × Value → H) :
    ReturnsInHanded {} Tryd.checked os 5 .any (fun w args => (Rows.fnPageSpec.pre enc Tryd.prog Tryd.f5 [] false w args ∧ laidMetH Tryd.prog Rows.fnPageRow.laid w) ∧ sizedMet enc Tryd.prog Tryd.f5 (OpenSpec.ofChange Rows.fnPageSpec) false w args)
      (Rows.fnPageSpec.post enc Tryd.prog Tryd.f5 false true false false) := by
  refine returnsInHanded_of_change_and (C := Tryd.checked) (X := fun w _ => laidMetH Tryd.prog Rows.fnPageRow.laid w) (fun _ _ _ hh h => h.of_heap hh) own_fnPage started (by kernel_rfl) Tryd.func5
    (ChangeSpec.witness_shaped (enc := enc) (C := Tryd.checked) (os := os) (X := fun w _ => laidMetH Tryd.prog Rows.fnPageRow.laid w) false (World.doorLaid Tryd.prog 400 os) #[.slice none 0 0] 8 rfl (World.shaped_of_RefB (by kernel_rfl) (by kernel_rfl)) (by kernel_rfl) (by kernel_rfl) (by kernel_rfl) (door_fnPage os _)) ?_
  intro W base args ds gs before hval0 hW _ _ hL _
  have hval : ∀ (j : Nat) t v, Tryd.f5.params[j]? = some t → args[j]? = some v → Value.okWide Tryd.prog W .any base t v := hval0
  have hW' := hW
  obtain ⟨p, q, hA0, hV, rfl, hfz, hnd⟩ := hW
  have hA : DataW.TrodAll enc Tryd.prog W 0 (fun _ => true) true Tryd.f5.params.toList args.toList ds p := hA0
  rw [Tryd.params5] at hA hval
  obtain ⟨v0, vs0, d0, ds0, p0, q0, hargs, rfl, rfl, h0, r0⟩ := trodAll_cons hA
  obtain ⟨rfl, rfl, rfl⟩ := trodAll_nil r0
  obtain rfl : args = #[v0] := by cases args; simp_all
  obtain ⟨a0, len0, cap0, rfl⟩ := okWide_slice Tryd.underlying22 (hval 0 22 v0 rfl rfl)
  have k0 := h0
  have lt0 : ∀ x ∈ p0, x.block < W.heap.size := by obtain ⟨m, hm⟩ := k0; exact DataW.trod_lt m _ _ _ hm
  obtain ⟨z0, w0⟩ : ∃ zs, IsRow .u8 W a0 len0 cap0 zs := by
    obtain ⟨fuel, hf⟩ := h0
    rcases open_ints Tryd.underlying22 Tryd.underlying5 (by kernel_rfl) hf with ⟨hcs, _⟩ | ⟨x, l, c, zs, hcs, _, hl, hm, hz, _, hcell, hwz⟩
    · simp [Value.cells] at hcs
      obtain ⟨rfl, rfl, rfl⟩ := hcs
      exact ⟨[], .inl ⟨rfl, rfl, rfl, rfl⟩⟩
    · simp [Value.cells] at hcs
      obtain ⟨rfl, rfl, rfl⟩ := hcs
      exact ⟨zs, .inr ⟨_, rfl, hl, hm, by simpa using hz, hcell, hwz⟩⟩
  rw [MakeChecks.laidMetH_plain _ _ _ (by kernel_rfl)] at hL
  have e0 : Err W 2 := laid_err hL gl0_fnPage gt0_fnPage Tryd.underlying74
  have e1 : Err W 0 := laid_err hL.tail gl1_fnPage gt1_fnPage Tryd.underlying74
  have e2 : Err W 1 := laid_err hL.tail.tail gl2_fnPage gt2_fnPage Tryd.underlying74
  have e3 : Err W 3 := laid_err hL.tail.tail.tail gl3_fnPage gt3_fnPage Tryd.underlying74
  obtain ⟨g0, t0, cs0, f0, y0, q0', gs0, qs0, rfl, hg0, ht0, hv0, hd0, rv0, hq0⟩ := trodVars_first hV
  obtain ⟨g1, t1, cs1, f1, y1, q1', gs1, qs1, rfl, hg1, ht1, hv1, hd1, rv1, hq1⟩ := trodVars_first rv0
  obtain ⟨g2, t2, cs2, f2, y2, q2', gs2, qs2, rfl, hg2, ht2, hv2, hd2, rv2, hq2⟩ := trodVars_first rv1
  obtain ⟨g3, t3, cs3, f3, y3, q3', gs3, qs3, rfl, hg3, ht3, hv3, hd3, rv3, hq3⟩ := trodVars_first rv2
  obtain ⟨rfl, rfl⟩ := trodVars_none rv3
  obtain rfl := Option.some.inj (gv0_fnPage.symm.trans hg0)
  obtain rfl := Option.some.inj (gu0_fnPage.symm.trans ht0)
  obtain ⟨x0, rfl, ix0, rfl, rfl, cx0⟩ := token_of hg0 Tryd.underlying74 hv0 hd0
  obtain rfl := Option.some.inj (gv1_fnPage.symm.trans hg1)
  obtain rfl := Option.some.inj (gu1_fnPage.symm.trans ht1)
  obtain ⟨x1, rfl, ix1, rfl, rfl, cx1⟩ := token_of hg1 Tryd.underlying74 hv1 hd1
  obtain rfl := Option.some.inj (gv2_fnPage.symm.trans hg2)
  obtain rfl := Option.some.inj (gu2_fnPage.symm.trans ht2)
  obtain ⟨x2, rfl, ix2, rfl, rfl, cx2⟩ := token_of hg2 Tryd.underlying74 hv2 hd2
  obtain rfl := Option.some.inj (gv3_fnPage.symm.trans hg3)
  obtain rfl := Option.some.inj (gu3_fnPage.symm.trans ht3)
  obtain ⟨x3, rfl, ix3, rfl, rfl, cx3⟩ := token_of hg3 Tryd.underlying74 hv3 hd3
  clear hA0 hval0
  refine (lawFPage_walk a0 len0 cap0 z0 W w0 e1 e0 e2 e3 e1.lt e0.lt e2.lt e3.lt).mono fun e W' ⟨he, bel⟩ => ?_
  subst he
  exact ⟨_, rfl, _, _, _, [], _, [.cell 0 0, .cell 2 0, .cell 1 0, .cell 3 0], hW', trodAll_mk1 (shut_bool Tryd.underlying4 _), (trodAll_cons_mk (Below.trod laidOut_fnPage (by kernel_rfl) (of_decide_eq_true (by kernel_rfl)) k0 bel lt0) trodAll_mk0), (vars_first enc gv0_fnPage gu0_fnPage Tryd.underlying74 (var?_below bel gv0_fnPage e1.lt hv0) ix0 (vars_first enc gv1_fnPage gu1_fnPage Tryd.underlying74 (var?_below bel gv1_fnPage e0.lt hv1) ix1 (vars_first enc gv2_fnPage gu2_fnPage Tryd.underlying74 (var?_below bel gv2_fnPage e2.lt hv2) ix2 (vars_first enc gv3_fnPage gu3_fnPage Tryd.underlying74 (var?_below bel gv3_fnPage e3.lt hv3) ix3 rfl)))), bel.frame _, fun h => by cases h⟩

theorem said_fnPage : Rows.FnPageSaid :=
  OpenClaim.holds_of_wide 5 Tryd.f5 rfl rfl rfl rfl rfl rfl rfl ⟨rfl, rfl, rfl, rfl, rfl⟩ rfl rfl rfl rfl rfl (by kernel_rfl) Tryd.func5 (by kernel_rfl)
    (of_decide_eq_true (by kernel_rfl)) (by unfold Func.isWrapper; first | (rw [if_pos (by decide +kernel)]; kernel_rfl) | (rw [if_neg (by decide +kernel)]; exact ⟨rfl, rfl⟩))
    (fun os started H enc _ => lifted_fnPage os started H enc)

theorem plain_fnPage (f : FuncId) (fn : Func) (hf : Tryd.pinned.checked.prog.funcNamed Rows.fnPageRow.func = some f) (hfn : Tryd.pinned.checked.prog.funcs[f]? = some fn) :
    Rows.fnPageCard.stood.looks = Tryd.pinned.checked.prog.looks [] ∧ ∀ (j : Nat) t, fn.params[j]? = some t → Tryd.pinned.checked.prog.wantsStandIn t = false := by
  obtain rfl : f = 5 := Option.some.inj ((show Tryd.prog.funcNamed Rows.fnPageRow.func = some 5 by kernel_rfl).symm.trans hf) |>.symm
  obtain rfl : fn = Tryd.f5 := (Option.some.inj (Tryd.func5.symm.trans hfn)).symm
  refine ⟨by kernel_rfl, fun j t ht => ?_⟩
  rw [Tryd.params5] at ht
  have hm : t ∈ [22] := by simpa using Array.mem_of_getElem? ht
  have hall : ([22].all fun u => !Tryd.prog.wantsStandIn u) = true := by kernel_rfl
  exact (show Tryd.prog.wantsStandIn t = false by simpa using List.all_eq_true.1 hall t hm)

theorem fnPage_card : Rows.FnPageCardSaid :=
  Claim7.holds_tied_plain_at .later [] _ _ _ _ said_fnPage (fun _ h => by cases h) (by kernel_rfl) (fun _ h => by cases h) fnPage_row_tie rfl ⟨rfl, rfl⟩ (by kernel_rfl) rfl plain_fnPage (by kernel_rfl)
#print axioms fnPage_card
end Go.Proofs.YtpgogpphobafoabDoor
