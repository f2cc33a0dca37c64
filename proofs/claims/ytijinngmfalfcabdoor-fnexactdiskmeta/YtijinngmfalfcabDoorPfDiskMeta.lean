/-
  Proved: called with any arguments, the law FnExactDiskMeta returns true, and each argument reads behind the call as it read before; the listed package variables hold what the program's own text lays in them (the card ties this).
-/
import Derived.Test.YtijinngmfalfcabDoorLwDT
import Derived.Test.YtijinngmfalfcabDoorDoor
import Derived.Test.YtijinngmfalfcabDoorArgD
import Derived.Test.YtijinngmfalfcabDoorCards
import Derived.Test.YtijinngmfalfcabDoorTie
import Derived.ProofKit
import Derived.OpenShut
import Derived.ShutString
import Derived.ChangeOld
import Derived.Below
import Derived.LaidMore
import Derived.Stop.Joined
import Derived.WalkSmall
import Derived.SevenTiedAt
namespace Go.Proofs.YtijinngmfalfcabDoor
open Go.ChangeShapes Go.WideShapes Go.ChangeAt Go.RowKit
open Go.ChangeMaps (open_string shut_string)
set_option linter.unusedVariables false

theorem own_fnExactDiskMeta : ownKnob Tryd.prog.godebug = none := by kernel_rfl
theorem laidOut_fnExactDiskMeta : laidOutB Tryd.prog = true := by kernel_rfl
theorem gl0_fnExactDiskMeta : Tryd.prog.globalNamed ((Rows.fnExactDiskMetaRow.laid.map (·.1)).getD 0 default) = some 0 := by kernel_rfl
theorem gt0_fnExactDiskMeta : (Tryd.prog.globals[0]?).map (·.type) = some 113 := by kernel_rfl
theorem gl1_fnExactDiskMeta : Tryd.prog.globalNamed ((Rows.fnExactDiskMetaRow.laid.map (·.1)).getD 1 default) = some 1 := by kernel_rfl
theorem gt1_fnExactDiskMeta : (Tryd.prog.globals[1]?).map (·.type) = some 113 := by kernel_rfl
theorem gv0_fnExactDiskMeta : Tryd.prog.globalNamed (Rows.fnExactDiskMetaSpec.vars.getD 0 default) = some 0 := by kernel_rfl
theorem gu0_fnExactDiskMeta : (Tryd.prog.globals[0]?).map (·.type) = some 113 := by kernel_rfl
theorem gv1_fnExactDiskMeta : Tryd.prog.globalNamed (Rows.fnExactDiskMetaSpec.vars.getD 1 default) = some 1 := by kernel_rfl
theorem gu1_fnExactDiskMeta : (Tryd.prog.globals[1]?).map (·.type) = some 113 := by kernel_rfl
theorem door_fnExactDiskMeta (os : Os) (args : Array Value) : laidMetH Tryd.prog Rows.fnExactDiskMetaRow.laid ((World.doorLaid Tryd.prog 400 os).forCall (fun _ _ => 0) ⟨#[], args, []⟩).memory :=
  laidMetH_of_parts3 (fuel := 8) (laidMet_of_run' 8 (by kernel_rfl) (by kernel_rfl)) (by kernel_rfl) (by kernel_rfl)

set_option maxRecDepth 100000 in
theorem lifted_fnExactDiskMeta (os : Os) (started : os.Started) (H : Type) (enc : TypeId × Value → H) :
    ReturnsInHanded {} Tryd.checked os 4 .any (fun w args => (Rows.fnExactDiskMetaSpec.pre enc Tryd.prog Tryd.f4 [] false w args ∧ laidMetH Tryd.prog Rows.fnExactDiskMetaRow.laid w) ∧ sizedMet enc Tryd.prog Tryd.f4 (OpenSpec.ofChange Rows.fnExactDiskMetaSpec) false w args)
      (Rows.fnExactDiskMetaSpec.post enc Tryd.prog Tryd.f4 false true false false) := by
  refine returnsInHanded_of_change_and (C := Tryd.checked) (X := fun w _ => laidMetH Tryd.prog Rows.fnExactDiskMetaRow.laid w) (fun _ _ _ hh h => h.of_heap hh) own_fnExactDiskMeta started (by kernel_rfl) Tryd.func4
    (ChangeSpec.witness_shaped (enc := enc) (C := Tryd.checked) (os := os) (X := fun w _ => laidMetH Tryd.prog Rows.fnExactDiskMetaRow.laid w) false (World.doorLaid Tryd.prog 400 os) #[.agg #[.slice none 0 0, .slice none 0 0]] 8 rfl (World.shaped_of_RefB (by kernel_rfl) (by kernel_rfl)) (by kernel_rfl) (by kernel_rfl) (by kernel_rfl) (door_fnExactDiskMeta os _)) ?_
  intro W base args ds gs before hval0 hW _ _ hL _
  have hval : ∀ (j : Nat) t v, Tryd.f4.params[j]? = some t → args[j]? = some v → Value.okWide Tryd.prog W .any base t v := hval0
  have hW' := hW
  obtain ⟨p, q, hA0, hV, rfl, hfz, hnd⟩ := hW
  have hA : DataW.TrodAll enc Tryd.prog W 0 (fun _ => true) true Tryd.f4.params.toList args.toList ds p := hA0
  rw [Tryd.params4] at hA hval
  obtain ⟨v0, vs0, d0, ds0, p0, q0, hargs, rfl, rfl, h0, r0⟩ := trodAll_cons hA
  obtain ⟨rfl, rfl, rfl⟩ := trodAll_nil r0
  obtain rfl : args = #[v0] := by cases args; simp_all
  have k0 := h0
  have lt0 : ∀ x ∈ p0, x.block < W.heap.size := by obtain ⟨m, hm⟩ := k0; exact DataW.trod_lt m _ _ _ hm
  obtain ⟨sa0, sn0, sc0, da0, dn0, dc0, dk0, rfl, w0⟩ := open_disk (hval 0 25 v0 rfl rfl) h0
  rw [MakeChecks.laidMetH_plain _ _ _ (by kernel_rfl)] at hL
  have e0 : Err W 0 := laid_err hL gl0_fnExactDiskMeta gt0_fnExactDiskMeta Tryd.underlying113
  have e1 : Err W 1 := laid_err hL.tail gl1_fnExactDiskMeta gt1_fnExactDiskMeta Tryd.underlying113
  obtain ⟨g0, t0, cs0, f0, y0, q0', g1, t1, cs1, f1, y1, q1', rfl, hg0, ht0, hv0, hd0, hg1, ht1, hv1, hd1, hq⟩ := trodVars_two hV
  obtain rfl := Option.some.inj (gv0_fnExactDiskMeta.symm.trans hg0)
  obtain rfl := Option.some.inj (gu0_fnExactDiskMeta.symm.trans ht0)
  obtain ⟨x0, rfl, ix0, rfl, rfl, cx0⟩ := token_of hg0 Tryd.underlying113 hv0 hd0
  obtain rfl := Option.some.inj (gv1_fnExactDiskMeta.symm.trans hg1)
  obtain rfl := Option.some.inj (gu1_fnExactDiskMeta.symm.trans ht1)
  obtain ⟨x1, rfl, ix1, rfl, rfl, cx1⟩ := token_of hg1 Tryd.underlying113 hv1 hd1
  clear hA0 hval0
  refine (lawDiskMeta_walk sa0 sn0 sc0 da0 dn0 dc0 dk0 W w0 e0 e1 e0.lt e1.lt).mono fun e W' ⟨he, bel⟩ => ?_
  subst he
  exact ⟨_, rfl, _, _, _, [], _, [.cell 0 0, .cell 1 0], hW', trodAll_mk1 (shut_bool Tryd.underlying4 _), (trodAll_cons_mk (Below.trod laidOut_fnExactDiskMeta (by kernel_rfl) (of_decide_eq_true (by kernel_rfl)) k0 bel lt0) trodAll_mk0), vars_read2 enc gv0_fnExactDiskMeta gu0_fnExactDiskMeta Tryd.underlying113 (var?_below bel gv0_fnExactDiskMeta e0.lt hv0) ix0 gv1_fnExactDiskMeta gu1_fnExactDiskMeta Tryd.underlying113 (var?_below bel gv1_fnExactDiskMeta e1.lt hv1) ix1 _, bel.frame _, fun h => by cases h⟩

theorem said_fnExactDiskMeta : Rows.FnExactDiskMetaSaid :=
  OpenClaim.holds_of_wide 4 Tryd.f4 rfl rfl rfl rfl rfl rfl rfl ⟨rfl, rfl, rfl, rfl, rfl⟩ rfl rfl rfl rfl rfl (by kernel_rfl) Tryd.func4 (by kernel_rfl)
    (of_decide_eq_true (by kernel_rfl)) (by unfold Func.isWrapper; first | (rw [if_pos (by decide +kernel)]; kernel_rfl) | (rw [if_neg (by decide +kernel)]; exact ⟨rfl, rfl⟩))
    (fun os started H enc _ => lifted_fnExactDiskMeta os started H enc)

theorem plain_fnExactDiskMeta (f : FuncId) (fn : Func) (hf : Tryd.pinned.checked.prog.funcNamed Rows.fnExactDiskMetaRow.func = some f) (hfn : Tryd.pinned.checked.prog.funcs[f]? = some fn) :
    Rows.fnExactDiskMetaCard.stood.looks = Tryd.pinned.checked.prog.looks [] ∧ ∀ (j : Nat) t, fn.params[j]? = some t → Tryd.pinned.checked.prog.wantsStandIn t = false := by
  obtain rfl : f = 4 := Option.some.inj ((show Tryd.prog.funcNamed Rows.fnExactDiskMetaRow.func = some 4 by kernel_rfl).symm.trans hf) |>.symm
  obtain rfl : fn = Tryd.f4 := (Option.some.inj (Tryd.func4.symm.trans hfn)).symm
  refine ⟨by kernel_rfl, fun j t ht => ?_⟩
  rw [Tryd.params4] at ht
  have hm : t ∈ [25] := by simpa using Array.mem_of_getElem? ht
  have hall : ([25].all fun u => !Tryd.prog.wantsStandIn u) = true := by kernel_rfl
  exact (show Tryd.prog.wantsStandIn t = false by simpa using List.all_eq_true.1 hall t hm)

theorem fnExactDiskMeta_card : Rows.FnExactDiskMetaCardSaid :=
  Claim7.holds_tied_plain_at .later [] _ _ _ _ said_fnExactDiskMeta (fun _ h => by cases h) (by kernel_rfl) (fun _ h => by cases h) fnExactDiskMeta_row_tie rfl ⟨rfl, rfl⟩ (by kernel_rfl) rfl plain_fnExactDiskMeta (by kernel_rfl)
#print axioms fnExactDiskMeta_card
end Go.Proofs.YtijinngmfalfcabDoor

