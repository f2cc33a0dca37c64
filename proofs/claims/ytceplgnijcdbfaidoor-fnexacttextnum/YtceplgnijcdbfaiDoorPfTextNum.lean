/-
  Proved: called with any arguments, the law FnExactTextNum returns true, and each argument reads behind the call as it read before; the listed package variables hold what the program's own text lays in them (the card ties this).
-/
import Derived.Test.YtceplgnijcdbfaiDoorLawTextNum
import Derived.Test.YtceplgnijcdbfaiDoorDoorN
import Derived.Test.YtceplgnijcdbfaiDoorCards
import Derived.Test.YtceplgnijcdbfaiDoorTie
import Derived.ProofKit
import Derived.OpenShut
import Derived.ShutString
import Derived.ChangeOld
import Derived.Below
import Derived.LaidMore
import Derived.Stop.Joined
import Derived.WalkSmall
import Derived.SevenTiedAt
import Derived.Lib.LaidTab
import Derived.Stop.LaidErr
namespace Go.Proofs.YtceplgnijcdbfaiDoor
open Go.ChangeShapes Go.WideShapes Go.ChangeAt Go.RowKit
open Go.ChangeMaps (open_string shut_string)
set_option linter.unusedVariables false

theorem own_fnExactTextNum : ownKnob Tryd.prog.godebug = none := by kernel_rfl
theorem laidOut_fnExactTextNum : laidOutB Tryd.prog = true := by kernel_rfl
theorem gl2_fnExactTextNum : Tryd.prog.globalNamed ((Rows.fnExactTextNumRow.laid.map (·.1)).getD 2 default) = some 2 := by kernel_rfl
theorem gt2_fnExactTextNum : (Tryd.prog.globals[2]?).map (·.type) = some 55 := by kernel_rfl
theorem pow_fnExactTextNum : Rows.laid_internal_strconv_uint64pow10 (H := Unit) = Lib.tabData .u64 Lib.pow10Tab := by kernel_rfl
theorem gl3_fnExactTextNum : Tryd.prog.globalNamed ((Rows.fnExactTextNumRow.laid.map (·.1)).getD 3 default) = some 1 := by kernel_rfl
theorem gt3_fnExactTextNum : (Tryd.prog.globals[1]?).map (·.type) = some 29 := by kernel_rfl
theorem gl4_fnExactTextNum : Tryd.prog.globalNamed ((Rows.fnExactTextNumRow.laid.map (·.1)).getD 4 default) = some 0 := by kernel_rfl
theorem gt4_fnExactTextNum : (Tryd.prog.globals[0]?).map (·.type) = some 29 := by kernel_rfl
theorem door_fnExactTextNum (os : Os) (args : Array Value) : laidMetH Tryd.prog Rows.fnExactTextNumRow.laid ((World.doorLaid Tryd.prog 400 os).forCall (fun _ _ => 0) ⟨#[], args, []⟩).memory :=
  laidMetH_of_parts3 (fuel := 8) (laidMet_of_run' 8 (by kernel_rfl) (by kernel_rfl)) (by kernel_rfl) (by kernel_rfl)

set_option maxRecDepth 100000 in
theorem lifted_fnExactTextNum (os : Os) (started : os.Started) (H : Type) (enc : TypeId × Value → H) :
    ReturnsInHanded {} Tryd.checked os 4 .any (fun w args => (Rows.fnExactTextNumSpec.pre enc Tryd.prog Tryd.f4 [] false w args ∧ laidMetH Tryd.prog Rows.fnExactTextNumRow.laid w) ∧ sizedMet enc Tryd.prog Tryd.f4 (OpenSpec.ofChange Rows.fnExactTextNumSpec) false w args)
      (Rows.fnExactTextNumSpec.post enc Tryd.prog Tryd.f4 false true false false) := by
  refine returnsInHanded_of_change_and (C := Tryd.checked) (X := fun w _ => laidMetH Tryd.prog Rows.fnExactTextNumRow.laid w) (fun _ _ _ hh h => h.of_heap hh) own_fnExactTextNum started (by kernel_rfl) Tryd.func4
    (ChangeSpec.witness_shaped (enc := enc) (C := Tryd.checked) (os := os) (X := fun w _ => laidMetH Tryd.prog Rows.fnExactTextNumRow.laid w) false (World.doorLaid Tryd.prog 400 os) #[.string ByteArray.empty] 8 rfl (World.shaped_of_RefB (by kernel_rfl) (by kernel_rfl)) (by kernel_rfl) (by kernel_rfl) (by kernel_rfl) (door_fnExactTextNum os _)) ?_
  intro W base args ds gs before hval0 hW _ _ hL _
  have hval : ∀ (j : Nat) t v, Tryd.f4.params[j]? = some t → args[j]? = some v → Value.okWide Tryd.prog W .any base t v := hval0
  have hW' := hW
  obtain ⟨p, q, hA0, hV, rfl, hfz, hnd⟩ := hW
  have hA : DataW.TrodAll enc Tryd.prog W 0 (fun _ => true) true Tryd.f4.params.toList args.toList ds p := hA0
  rw [Tryd.params4] at hA hval
  obtain ⟨v0, vs0, d0, ds0, p0, q0, hargs, rfl, rfl, h0, r0⟩ := trodAll_cons hA
  obtain ⟨rfl, rfl, rfl⟩ := trodAll_nil r0
  obtain rfl : args = #[v0] := by cases args; simp_all
  obtain ⟨a0, rfl, rfl, rfl, w0⟩ := open_string Tryd.underlying9 (hval 0 9 v0 rfl rfl) h0
  rw [MakeChecks.laidMetH_plain _ _ _ (by kernel_rfl)] at hL
  have tb : Tab W := Lib.tabIs_of_head gl2_fnExactTextNum gt2_fnExactTextNum Tryd.underlying55 Tryd.underlying41 (by kernel_rfl) (by kernel_rfl) (by rw [← pow_fnExactTextNum]; exact hL.tail.tail)
  have tl : 2 < W.heap.size := block_lt (tb.cell gl2_fnExactTextNum 0 (by decide))
  have e3 : Err W 1 := laid_err hL.tail.tail.tail gl3_fnExactTextNum gt3_fnExactTextNum Tryd.underlying29
  have e4 : Err W 0 := laid_err hL.tail.tail.tail.tail gl4_fnExactTextNum gt4_fnExactTextNum Tryd.underlying29
  obtain ⟨rfl, rfl⟩ := trodVars_none hV
  clear hA0 hval0
  refine (lawTextNum_walk a0 W w0 tb e3 e4 e3.lt e4.lt tl).mono fun e W' ⟨he, bel⟩ => ?_
  subst he
  exact ⟨_, rfl, _, _, _, [], _, [], hW', trodAll_mk1 (shut_bool Tryd.underlying4 _), (trodAll_cons_mk (shut_string Tryd.underlying9 w0) trodAll_mk0), rfl, bel.frame _, fun h => by cases h⟩

theorem said_fnExactTextNum : Rows.FnExactTextNumSaid :=
  OpenClaim.holds_of_wide 4 Tryd.f4 rfl rfl rfl rfl rfl rfl rfl ⟨rfl, rfl, rfl, rfl, rfl⟩ rfl rfl rfl rfl rfl (by kernel_rfl) Tryd.func4 (by kernel_rfl)
    (of_decide_eq_true (by kernel_rfl)) (by unfold Func.isWrapper; first | (rw [if_pos (by decide +kernel)]; kernel_rfl) | (rw [if_neg (by decide +kernel)]; exact ⟨rfl, rfl⟩))
    (fun os started H enc _ => lifted_fnExactTextNum os started H enc)

theorem plain_fnExactTextNum (f : FuncId) (fn : Func) (hf : Tryd.pinned.checked.prog.funcNamed Rows.fnExactTextNumRow.func = some f) (hfn : Tryd.pinned.checked.prog.funcs[f]? = some fn) :
    Rows.fnExactTextNumCard.stood.looks = Tryd.pinned.checked.prog.looks [] ∧ ∀ (j : Nat) t, fn.params[j]? = some t → Tryd.pinned.checked.prog.wantsStandIn t = false := by
  obtain rfl : f = 4 := Option.some.inj ((show Tryd.prog.funcNamed Rows.fnExactTextNumRow.func = some 4 by kernel_rfl).symm.trans hf) |>.symm
  obtain rfl : fn = Tryd.f4 := (Option.some.inj (Tryd.func4.symm.trans hfn)).symm
  refine ⟨by kernel_rfl, fun j t ht => ?_⟩
  rw [Tryd.params4] at ht
  have hm : t ∈ [9] := by simpa using Array.mem_of_getElem? ht
  have hall : ([9].all fun u => !Tryd.prog.wantsStandIn u) = true := by kernel_rfl
  exact (show Tryd.prog.wantsStandIn t = false by simpa using List.all_eq_true.1 hall t hm)

theorem fnExactTextNum_card : Rows.FnExactTextNumCardSaid :=
  Claim7.holds_tied_plain_at .later [] _ _ _ _ said_fnExactTextNum (fun _ h => by cases h) (by kernel_rfl) (fun _ h => by cases h) fnExactTextNum_row_tie rfl ⟨rfl, rfl⟩ (by kernel_rfl) rfl plain_fnExactTextNum (by kernel_rfl)
#print axioms fnExactTextNum_card
end Go.Proofs.YtceplgnijcdbfaiDoor
