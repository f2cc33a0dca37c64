/-
  Proved: called with any arguments, the law FnSync returns true, and each argument reads behind the call as it read before; the listed package variables hold what the program's own text lays in them (the card ties this).
-/
import Derived.Test.YtcpdedpgjaimkaaDoorMs6
import Derived.Test.YtcpdedpgjaimkaaDoorMs2
import Derived.Test.YtcpdedpgjaimkaaDoorCards
import Derived.Test.YtcpdedpgjaimkaaDoorTie
import Derived.ProofKit
import Derived.OpenShut
import Derived.ShutString
import Derived.ChangeOld
import Derived.Below
import Derived.LaidMore
import Derived.Stop.Joined
import Derived.WalkSmall
import Derived.SevenTiedAt
namespace Go.Proofs.YtcpdedpgjaimkaaDoor
open Go.ChangeShapes Go.WideShapes Go.ChangeAt Go.RowKit
open Go.ChangeMaps (open_string shut_string)
set_option linter.unusedVariables false

theorem own_fnSync : ownKnob Tryd.prog.godebug = none := by kernel_rfl
theorem laidOut_fnSync : laidOutB Tryd.prog = true := by kernel_rfl
theorem gl0_fnSync : Tryd.prog.globalNamed ((Rows.fnSyncRow.laid.map (·.1)).getD 0 default) = some 1 := by kernel_rfl
theorem gt0_fnSync : (Tryd.prog.globals[1]?).map (·.type) = some 77 := by kernel_rfl
theorem gl1_fnSync : Tryd.prog.globalNamed ((Rows.fnSyncRow.laid.map (·.1)).getD 1 default) = some 0 := by kernel_rfl
theorem gt1_fnSync : (Tryd.prog.globals[0]?).map (·.type) = some 77 := by kernel_rfl
theorem gv0_fnSync : Tryd.prog.globalNamed (Rows.fnSyncSpec.vars.getD 0 default) = some 1 := by kernel_rfl
theorem gu0_fnSync : (Tryd.prog.globals[1]?).map (·.type) = some 77 := by kernel_rfl
theorem gv1_fnSync : Tryd.prog.globalNamed (Rows.fnSyncSpec.vars.getD 1 default) = some 0 := by kernel_rfl
theorem gu1_fnSync : (Tryd.prog.globals[0]?).map (·.type) = some 77 := by kernel_rfl
theorem door_fnSync (os : Os) (args : Array Value) : laidMetH Tryd.prog Rows.fnSyncRow.laid ((World.doorLaid Tryd.prog 400 os).forCall (fun _ _ => 0) ⟨#[], args, []⟩).memory :=
  laidMetH_of_parts3 (fuel := 8) (laidMet_of_run' 8 (by kernel_rfl) (by kernel_rfl)) (by kernel_rfl) (by kernel_rfl)

set_option maxRecDepth 100000 in
theorem lifted_fnSync (os : Os) (started : os.Started) (H : Type) (enc : TypeId × Value → H) :
    ReturnsInHanded {} Tryd.checked os 3 .any (fun w args => (Rows.fnSyncSpec.pre enc Tryd.prog Tryd.f3 [] false w args ∧ laidMetH Tryd.prog Rows.fnSyncRow.laid w) ∧ sizedMet enc Tryd.prog Tryd.f3 (OpenSpec.ofChange Rows.fnSyncSpec) false w args)
      (Rows.fnSyncSpec.post enc Tryd.prog Tryd.f3 false true false false) := by
  refine returnsInHanded_of_change_and (C := Tryd.checked) (X := fun w _ => laidMetH Tryd.prog Rows.fnSyncRow.laid w) (fun _ _ _ hh h => h.of_heap hh) own_fnSync started (by kernel_rfl) Tryd.func3
    (ChangeSpec.witness_shaped (enc := enc) (C := Tryd.checked) (os := os) (X := fun w _ => laidMetH Tryd.prog Rows.fnSyncRow.laid w) false (World.doorLaid Tryd.prog 400 os) #[.slice none 0 0] 8 rfl (World.shaped_of_RefB (by kernel_rfl) (by kernel_rfl)) (by kernel_rfl) (by kernel_rfl) (by kernel_rfl) (door_fnSync os _)) ?_
  intro W base args ds gs before hval0 hW _ _ hL _
  have hval : ∀ (j : Nat) t v, Tryd.f3.params[j]? = some t → args[j]? = some v → Value.okWide Tryd.prog W .any base t v := hval0
  have hW' := hW
  obtain ⟨p, q, hA0, hV, rfl, hfz, hnd⟩ := hW
  have hA : DataW.TrodAll enc Tryd.prog W 0 (fun _ => true) true Tryd.f3.params.toList args.toList ds p := hA0
  rw [Tryd.params3] at hA hval
  obtain ⟨v0, vs0, d0, ds0, p0, q0, hargs, rfl, rfl, h0, r0⟩ := trodAll_cons hA
  obtain ⟨rfl, rfl, rfl⟩ := trodAll_nil r0
  obtain rfl : args = #[v0] := by cases args; simp_all
  obtain ⟨a0, len0, cap0, rfl⟩ := okWide_slice Tryd.underlying22 (hval 0 22 v0 rfl rfl)
  have k0 := h0
  have lt0 : ∀ x ∈ p0, x.block < W.heap.size := by obtain ⟨m, hm⟩ := k0; exact DataW.trod_lt m _ _ _ hm
  obtain ⟨z0, w0⟩ : ∃ zs, IsRow .u8 W a0 len0 cap0 zs := by
    obtain ⟨fuel, hf⟩ := h0
    rcases open_ints Tryd.underlying22 Tryd.underlying5 (by kernel_rfl) hf with ⟨hcs, _⟩ | ⟨x, l, c, zs, hcs, _, hl, hm, hz, _, hcell, hwz⟩
    · simp [Value.cells] at hcs
      obtain ⟨rfl, rfl, rfl⟩ := hcs
      exact ⟨[], .inl ⟨rfl, rfl, rfl, rfl⟩⟩
    · simp [Value.cells] at hcs
      obtain ⟨rfl, rfl, rfl⟩ := hcs
      exact ⟨zs, .inr ⟨_, rfl, hl, hm, by simpa using hz, hcell, hwz⟩⟩
  rw [MakeChecks.laidMetH_plain _ _ _ (by kernel_rfl)] at hL
  have e0 : Err W 1 := laid_err hL gl0_fnSync gt0_fnSync Tryd.underlying77
  have e1 : Err W 0 := laid_err hL.tail gl1_fnSync gt1_fnSync Tryd.underlying77
  obtain ⟨g0, t0, cs0, f0, y0, q0', g1, t1, cs1, f1, y1, q1', rfl, hg0, ht0, hv0, hd0, hg1, ht1, hv1, hd1, hq⟩ := trodVars_two hV
  obtain rfl := Option.some.inj (gv0_fnSync.symm.trans hg0)
  obtain rfl := Option.some.inj (gu0_fnSync.symm.trans ht0)
  obtain ⟨x0, rfl, ix0, rfl, rfl, cx0⟩ := token_of hg0 Tryd.underlying77 hv0 hd0
  obtain rfl := Option.some.inj (gv1_fnSync.symm.trans hg1)
  obtain rfl := Option.some.inj (gu1_fnSync.symm.trans ht1)
  obtain ⟨x1, rfl, ix1, rfl, rfl, cx1⟩ := token_of hg1 Tryd.underlying77 hv1 hd1
  clear hA0 hval0
  refine (lawSync_walk' a0 len0 cap0 z0 W w0 e0 e1 e0.lt e1.lt).mono fun e W' ⟨he, bel⟩ => ?_
  subst he
  exact ⟨_, rfl, _, _, _, [], _, [.cell 1 0, .cell 0 0], hW', trodAll_mk1 (shut_bool Tryd.underlying4 _), (trodAll_cons_mk (Below.trod laidOut_fnSync (by kernel_rfl) (of_decide_eq_true (by kernel_rfl)) k0 bel lt0) trodAll_mk0), vars_read2 enc gv0_fnSync gu0_fnSync Tryd.underlying77 (var?_below bel gv0_fnSync e0.lt hv0) ix0 gv1_fnSync gu1_fnSync Tryd.underlying77 (var?_below bel gv1_fnSync e1.lt hv1) ix1 _, bel.frame _, fun h => by cases h⟩

theorem said_fnSync : Rows.FnSyncSaid :=
  OpenClaim.holds_of_wide 3 Tryd.f3 rfl rfl rfl rfl rfl rfl rfl ⟨rfl, rfl, rfl, rfl, rfl⟩ rfl rfl rfl rfl rfl (by kernel_rfl) Tryd.func3 (by kernel_rfl)
    (of_decide_eq_true (by kernel_rfl)) (by unfold Func.isWrapper; first | (rw [if_pos (by decide +kernel)]; kernel_rfl) | (rw [if_neg (by decide +kernel)]; exact ⟨rfl, rfl⟩))
    (fun os started H enc _ => lifted_fnSync os started H enc)

theorem plain_fnSync (f : FuncId) (fn : Func) (hf : Tryd.pinned.checked.prog.funcNamed Rows.fnSyncRow.func = some f) (hfn : Tryd.pinned.checked.prog.funcs[f]? = some fn) :
    Rows.fnSyncCard.stood.looks = Tryd.pinned.checked.prog.looks [] ∧ ∀ (j : Nat) t, fn.params[j]? = some t → Tryd.pinned.checked.prog.wantsStandIn t = false := by
  obtain rfl : f = 3 := Option.some.inj ((show Tryd.prog.funcNamed Rows.fnSyncRow.func = some 3 by kernel_rfl).symm.trans hf) |>.symm
  obtain rfl : fn = Tryd.f3 := (Option.some.inj (Tryd.func3.symm.trans hfn)).symm
  refine ⟨by kernel_rfl, fun j t ht => ?_⟩
  rw [Tryd.params3] at ht
  have hm : t ∈ [22] := by simpa using Array.mem_of_getElem? ht
  have hall : ([22].all fun u => !Tryd.prog.wantsStandIn u) = true := by kernel_rfl
  exact (show Tryd.prog.wantsStandIn t = false by simpa using List.all_eq_true.1 hall t hm)

theorem fnSync_card : Rows.FnSyncCardSaid :=
  Claim7.holds_tied_plain_at .later [] _ _ _ _ said_fnSync (fun _ h => by cases h) (by kernel_rfl) (fun _ h => by cases h) fnSync_row_tie rfl ⟨rfl, rfl⟩ (by kernel_rfl) rfl plain_fnSync (by kernel_rfl)
#print axioms fnSync_card
end Go.Proofs.YtcpdedpgjaimkaaDoor

