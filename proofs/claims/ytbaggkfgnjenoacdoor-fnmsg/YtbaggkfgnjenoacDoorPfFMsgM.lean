/-
  Proved: called with any arguments, the law FnMsg returns true, and each argument reads behind the call as it read before; the listed package variables hold what the program's own text lays in them (the card ties this).
-/
import Derived.Test.YtbaggkfgnjenoacDoorMg31
import Derived.Test.YtbaggkfgnjenoacDoorMg2
import Derived.Test.YtbaggkfgnjenoacDoorCards
import Derived.Test.YtbaggkfgnjenoacDoorTie
import Derived.ProofKit
import Derived.OpenShut
import Derived.ShutString
import Derived.ChangeOld
import Derived.Below
import Derived.LaidMore
import Derived.Stop.Joined
import Derived.WalkSmall
import Derived.SevenTiedAt
namespace Go.Proofs.YtbaggkfgnjenoacDoor
open Go.ChangeShapes Go.WideShapes Go.ChangeAt Go.RowKit
open Go.ChangeMaps (open_string shut_string)
set_option linter.unusedVariables false

theorem own_fnMsg : ownKnob Tryd.prog.godebug = none := by kernel_rfl
theorem laidOut_fnMsg : laidOutB Tryd.prog = true := by kernel_rfl
theorem gl0_fnMsg : Tryd.prog.globalNamed ((Rows.fnMsgRow.laid.map (·.1)).getD 0 default) = some 0 := by kernel_rfl
theorem gt0_fnMsg : (Tryd.prog.globals[0]?).map (·.type) = some 74 := by kernel_rfl
theorem gl1_fnMsg : Tryd.prog.globalNamed ((Rows.fnMsgRow.laid.map (·.1)).getD 1 default) = some 1 := by kernel_rfl
theorem gt1_fnMsg : (Tryd.prog.globals[1]?).map (·.type) = some 74 := by kernel_rfl
theorem gv0_fnMsg : Tryd.prog.globalNamed (Rows.fnMsgSpec.vars.getD 0 default) = some 1 := by kernel_rfl
theorem gu0_fnMsg : (Tryd.prog.globals[1]?).map (·.type) = some 74 := by kernel_rfl
theorem gv1_fnMsg : Tryd.prog.globalNamed (Rows.fnMsgSpec.vars.getD 1 default) = some 0 := by kernel_rfl
theorem gu1_fnMsg : (Tryd.prog.globals[0]?).map (·.type) = some 74 := by kernel_rfl
theorem door_fnMsg (os : Os) (args : Array Value) : laidMetH Tryd.prog Rows.fnMsgRow.laid ((World.doorLaid Tryd.prog 400 os).forCall (fun _ _ => 0) ⟨#[], args, []⟩).memory :=
  laidMetH_of_parts3 (fuel := 8) (laidMet_of_run' 8 (by kernel_rfl) (by kernel_rfl)) (by kernel_rfl) (by kernel_rfl)

set_option maxRecDepth 100000 in
theorem lifted_fnMsg (os : Os) (started : os.Started) (H : Type) (enc : TypeId × Value → H) :
    ReturnsInHanded {} Tryd.checked os 3 .any (fun w args => (Rows.fnMsgSpec.pre enc Tryd.prog Tryd.f3 [] false w args ∧ laidMetH Tryd.prog Rows.fnMsgRow.laid w) ∧ sizedMet enc Tryd.prog Tryd.f3 (OpenSpec.ofChange Rows.fnMsgSpec) false w args)
      (Rows.fnMsgSpec.post enc Tryd.prog Tryd.f3 false true false false) := by
  refine returnsInHanded_of_change_and (C := Tryd.checked) (X := fun w _ => laidMetH Tryd.prog Rows.fnMsgRow.laid w) (fun _ _ _ hh h => h.of_heap hh) own_fnMsg started (by kernel_rfl) Tryd.func3
    (ChangeSpec.witness_shaped (enc := enc) (C := Tryd.checked) (os := os) (X := fun w _ => laidMetH Tryd.prog Rows.fnMsgRow.laid w) false (World.doorLaid Tryd.prog 400 os) #[.slice none 0 0] 8 rfl (World.shaped_of_RefB (by kernel_rfl) (by kernel_rfl)) (by kernel_rfl) (by kernel_rfl) (by kernel_rfl) (door_fnMsg os _)) ?_
  intro W base args ds gs before hval0 hW _ _ hL _
  have hval : ∀ (j : Nat) t v, Tryd.f3.params[j]? = some t → args[j]? = some v → Value.okWide Tryd.prog W .any base t v := hval0
  have hW' := hW
  obtain ⟨p, q, hA0, hV, rfl, hfz, hnd⟩ := hW
  have hA : DataW.TrodAll enc Tryd.prog W 0 (fun _ => true) true Tryd.f3.params.toList args.toList ds p := hA0
  rw [Tryd.params3] at hA hval
  obtain ⟨v0, vs0, d0, ds0, p0, q0, hargs, rfl, rfl, h0, r0⟩ := trodAll_cons hA
  obtain ⟨rfl, rfl, rfl⟩ := trodAll_nil r0
  obtain rfl : args = #[v0] := by cases args; simp_all
  obtain ⟨a0, len0, cap0, rfl⟩ := okWide_slice Tryd.underlying22 (hval 0 22 v0 rfl rfl)
  have k0 := h0
  have lt0 : ∀ x ∈ p0, x.block < W.heap.size := by obtain ⟨m, hm⟩ := k0; exact DataW.trod_lt m _ _ _ hm
  obtain ⟨z0, w0⟩ : ∃ zs, IsRow .u8 W a0 len0 cap0 zs := by
    obtain ⟨fuel, hf⟩ := h0
    rcases open_ints Tryd.underlying22 Tryd.underlying5 (by kernel_rfl) hf with ⟨hcs, _⟩ | ⟨x, l, c, zs, hcs, _, hl, hm, hz, _, hcell, hwz⟩
    · simp [Value.cells] at hcs
      obtain ⟨rfl, rfl, rfl⟩ := hcs
      exact ⟨[], .inl ⟨rfl, rfl, rfl, rfl⟩⟩
    · simp [Value.cells] at hcs
      obtain ⟨rfl, rfl, rfl⟩ := hcs
      exact ⟨zs, .inr ⟨_, rfl, hl, hm, by simpa using hz, hcell, hwz⟩⟩
  rw [MakeChecks.laidMetH_plain _ _ _ (by kernel_rfl)] at hL
  have e0 : Err W 0 := laid_err hL gl0_fnMsg gt0_fnMsg Tryd.underlying74
  have e1 : Err W 1 := laid_err hL.tail gl1_fnMsg gt1_fnMsg Tryd.underlying74
  obtain ⟨g0, t0, cs0, f0, y0, q0', g1, t1, cs1, f1, y1, q1', rfl, hg0, ht0, hv0, hd0, hg1, ht1, hv1, hd1, hq⟩ := trodVars_two hV
  obtain rfl := Option.some.inj (gv0_fnMsg.symm.trans hg0)
  obtain rfl := Option.some.inj (gu0_fnMsg.symm.trans ht0)
  obtain ⟨x0, rfl, ix0, rfl, rfl, cx0⟩ := token_of hg0 Tryd.underlying74 hv0 hd0
  obtain rfl := Option.some.inj (gv1_fnMsg.symm.trans hg1)
  obtain rfl := Option.some.inj (gu1_fnMsg.symm.trans ht1)
  obtain ⟨x1, rfl, ix1, rfl, rfl, cx1⟩ := token_of hg1 Tryd.underlying74 hv1 hd1
  clear hA0 hval0
  refine (lawFMsg_door a0 len0 cap0 z0 W w0 e1 e0 e1.lt e0.lt).mono fun e W' ⟨he, bel⟩ => ?_
  subst he
  exact ⟨_, rfl, _, _, _, [], _, [.cell 1 0, .cell 0 0], hW', trodAll_mk1 (shut_bool Tryd.underlying4 _), (trodAll_cons_mk (Below.trod laidOut_fnMsg (by kernel_rfl) (of_decide_eq_true (by kernel_rfl)) k0 bel lt0) trodAll_mk0), vars_read2 enc gv0_fnMsg gu0_fnMsg Tryd.underlying74 (var?_below bel gv0_fnMsg e1.lt hv0) ix0 gv1_fnMsg gu1_fnMsg Tryd.underlying74 (var?_below bel gv1_fnMsg e0.lt hv1) ix1 _, bel.frame _, fun h => by cases h⟩

theorem said_fnMsg : Rows.FnMsgSaid :=
  OpenClaim.holds_of_wide 3 Tryd.f3 rfl rfl rfl rfl rfl rfl rfl ⟨rfl, rfl, rfl, rfl, rfl⟩ rfl rfl rfl rfl rfl (by kernel_rfl) Tryd.func3 (by kernel_rfl)
    (of_decide_eq_true (by kernel_rfl)) (by unfold Func.isWrapper; first | (rw [if_pos (by decide +kernel)]; kernel_rfl) | (rw [if_neg (by decide +kernel)]; exact ⟨rfl, rfl⟩))
    (fun os started H enc _ => lifted_fnMsg os started H enc)

theorem plain_fnMsg (f : FuncId) (fn : Func) (hf : Tryd.pinned.checked.prog.funcNamed Rows.fnMsgRow.func = some f) (hfn : Tryd.pinned.checked.prog.funcs[f]? = some fn) :
    Rows.fnMsgCard.stood.looks = Tryd.pinned.checked.prog.looks [] ∧ ∀ (j : Nat) t, fn.params[j]? = some t → Tryd.pinned.checked.prog.wantsStandIn t = false := by
  obtain rfl : f = 3 := Option.some.inj ((show Tryd.prog.funcNamed Rows.fnMsgRow.func = some 3 by kernel_rfl).symm.trans hf) |>.symm
  obtain rfl : fn = Tryd.f3 := (Option.some.inj (Tryd.func3.symm.trans hfn)).symm
  refine ⟨by kernel_rfl, fun j t ht => ?_⟩
  rw [Tryd.params3] at ht
  have hm : t ∈ [22] := by simpa using Array.mem_of_getElem? ht
  have hall : ([22].all fun u => !Tryd.prog.wantsStandIn u) = true := by kernel_rfl
  exact (show Tryd.prog.wantsStandIn t = false by simpa using List.all_eq_true.1 hall t hm)

theorem fnMsg_card : Rows.FnMsgCardSaid :=
  Claim7.holds_tied_plain_at .later [] _ _ _ _ said_fnMsg (fun _ h => by cases h) (by kernel_rfl) (fun _ h => by cases h) fnMsg_row_tie rfl ⟨rfl, rfl⟩ (by kernel_rfl) rfl plain_fnMsg (by kernel_rfl)
#print axioms fnMsg_card
end Go.Proofs.YtbaggkfgnjenoacDoor

