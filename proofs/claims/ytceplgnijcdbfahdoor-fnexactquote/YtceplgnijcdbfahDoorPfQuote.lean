/-
  Proved: called with any arguments, the law FnExactQuote returns true, and each argument reads behind the call as it read before; the listed package variables hold what the program's own text lays in them (the card ties this).
-/
import Derived.Test.YtceplgnijcdbfahDoorLawQuote
import Derived.Test.YtceplgnijcdbfahDoorDoor
import Derived.Test.YtceplgnijcdbfahDoorCards
import Derived.Test.YtceplgnijcdbfahDoorTie
import Derived.ProofKit
import Derived.OpenShut
import Derived.ShutString
import Derived.ChangeOld
import Derived.Below
import Derived.LaidMore
import Derived.Stop.Joined
import Derived.WalkSmall
import Derived.SevenTiedAt
namespace Go.Proofs.YtceplgnijcdbfahDoor
open Go.ChangeShapes Go.WideShapes Go.ChangeAt Go.RowKit
open Go.ChangeMaps (open_string shut_string)
set_option linter.unusedVariables false

theorem own_fnExactQuote : ownKnob Tryd.prog.godebug = none := by kernel_rfl
theorem laidOut_fnExactQuote : laidOutB Tryd.prog = true := by kernel_rfl
theorem gl0_fnExactQuote : Tryd.prog.globalNamed ((Rows.fnExactQuoteRow.laid.map (·.1)).getD 0 default) = some 2 := by kernel_rfl
theorem gt0_fnExactQuote : (Tryd.prog.globals[2]?).map (·.type) = some 44 := by kernel_rfl
theorem gv0_fnExactQuote : Tryd.prog.globalNamed (Rows.fnExactQuoteSpec.vars.getD 0 default) = some 2 := by kernel_rfl
theorem gu0_fnExactQuote : (Tryd.prog.globals[2]?).map (·.type) = some 44 := by kernel_rfl
theorem door_fnExactQuote (os : Os) (args : Array Value) : laidMetH Tryd.prog Rows.fnExactQuoteRow.laid ((World.doorLaid Tryd.prog 400 os).forCall (fun _ _ => 0) ⟨#[], args, []⟩).memory :=
  laidMetH_of_parts3 (fuel := 8) (laidMet_of_run' 8 (by kernel_rfl) (by kernel_rfl)) (by kernel_rfl) (by kernel_rfl)

set_option maxRecDepth 100000 in
theorem lifted_fnExactQuote (os : Os) (started : os.Started) (H : Type) (enc : TypeId × Value → H) :
    ReturnsInHanded {} Tryd.checked os 5 .any (fun w args => (Rows.fnExactQuoteSpec.pre enc Tryd.prog Tryd.f5 [] false w args ∧ laidMetH Tryd.prog Rows.fnExactQuoteRow.laid w) ∧ sizedMet enc Tryd.prog Tryd.f5 (OpenSpec.ofChange Rows.fnExactQuoteSpec) false w args)
      (Rows.fnExactQuoteSpec.post enc Tryd.prog Tryd.f5 false true false false) := by
  refine returnsInHanded_of_change_and (C := Tryd.checked) (X := fun w _ => laidMetH Tryd.prog Rows.fnExactQuoteRow.laid w) (fun _ _ _ hh h => h.of_heap hh) own_fnExactQuote started (by kernel_rfl) Tryd.func5
    (ChangeSpec.witness_shaped (enc := enc) (C := Tryd.checked) (os := os) (X := fun w _ => laidMetH Tryd.prog Rows.fnExactQuoteRow.laid w) false (World.doorLaid Tryd.prog 400 os) #[.string ByteArray.empty] 8 rfl (World.shaped_of_RefB (by kernel_rfl) (by kernel_rfl)) (by kernel_rfl) (by kernel_rfl) (by kernel_rfl) (door_fnExactQuote os _)) ?_
  intro W base args ds gs before hval0 hW _ _ hL _
  have hval : ∀ (j : Nat) t v, Tryd.f5.params[j]? = some t → args[j]? = some v → Value.okWide Tryd.prog W .any base t v := hval0
  have hW' := hW
  obtain ⟨p, q, hA0, hV, rfl, hfz, hnd⟩ := hW
  have hA : DataW.TrodAll enc Tryd.prog W 0 (fun _ => true) true Tryd.f5.params.toList args.toList ds p := hA0
  rw [Tryd.params5] at hA hval
  obtain ⟨v0, vs0, d0, ds0, p0, q0, hargs, rfl, rfl, h0, r0⟩ := trodAll_cons hA
  obtain ⟨rfl, rfl, rfl⟩ := trodAll_nil r0
  obtain rfl : args = #[v0] := by cases args; simp_all
  obtain ⟨a0, rfl, rfl, rfl, w0⟩ := open_string Tryd.underlying9 (hval 0 9 v0 rfl rfl) h0
  rw [MakeChecks.laidMetH_plain _ _ _ (by kernel_rfl)] at hL
  have e0 : Err W 2 := laid_err hL gl0_fnExactQuote gt0_fnExactQuote Tryd.underlying44
  obtain ⟨g0, t0, cs0, f0, y0, q0', rfl, hg0, ht0, hv0, hd0, hq⟩ := trodVars_one hV
  obtain rfl := Option.some.inj (gv0_fnExactQuote.symm.trans hg0)
  obtain rfl := Option.some.inj (gu0_fnExactQuote.symm.trans ht0)
  obtain ⟨x0, rfl, ix0, rfl, rfl, cx0⟩ := token_of hg0 Tryd.underlying44 hv0 hd0
  clear hA0 hval0
  refine (lawQuote_walk a0 W w0 e0 e0.lt).mono fun e W' ⟨he, bel⟩ => ?_
  subst he
  exact ⟨_, rfl, _, _, _, [], _, [.cell 2 0], hW', trodAll_mk1 (shut_bool Tryd.underlying4 _), (trodAll_cons_mk (shut_string Tryd.underlying9 w0) trodAll_mk0), vars_read1 enc gv0_fnExactQuote gu0_fnExactQuote Tryd.underlying44 (var?_below bel gv0_fnExactQuote e0.lt hv0) ix0 _, bel.frame _, fun h => by cases h⟩

theorem said_fnExactQuote : Rows.FnExactQuoteSaid :=
  OpenClaim.holds_of_wide 5 Tryd.f5 rfl rfl rfl rfl rfl rfl rfl ⟨rfl, rfl, rfl, rfl, rfl⟩ rfl rfl rfl rfl rfl (by kernel_rfl) Tryd.func5 (by kernel_rfl)
    (of_decide_eq_true (by kernel_rfl)) (by unfold Func.isWrapper; first | (rw [if_pos (by decide +kernel)]; kernel_rfl) | (rw [if_neg (by decide +kernel)]; exact ⟨rfl, rfl⟩))
    (fun os started H enc _ => lifted_fnExactQuote os started H enc)

theorem plain_fnExactQuote (f : FuncId) (fn : Func) (hf : Tryd.pinned.checked.prog.funcNamed Rows.fnExactQuoteRow.func = some f) (hfn : Tryd.pinned.checked.prog.funcs[f]? = some fn) :
    false = Tryd.pinned.checked.prog.looks [] ∧ ∀ (j : Nat) t, fn.params[j]? = some t → Tryd.pinned.checked.prog.wantsStandIn t = false := by
  obtain rfl : f = 5 := Option.some.inj ((show Tryd.prog.funcNamed Rows.fnExactQuoteRow.func = some 5 by kernel_rfl).symm.trans hf) |>.symm
  obtain rfl : fn = Tryd.f5 := (Option.some.inj (Tryd.func5.symm.trans hfn)).symm
  refine ⟨by kernel_rfl, fun j t ht => ?_⟩
  rw [Tryd.params5] at ht
  have hm : t ∈ [9] := by simpa using Array.mem_of_getElem? ht
  have hall : ([9].all fun u => !Tryd.prog.wantsStandIn u) = true := by kernel_rfl
  exact (show Tryd.prog.wantsStandIn t = false by simpa using List.all_eq_true.1 hall t hm)

theorem fnExactQuote_card : Rows.FnExactQuoteCardSaid :=
  Claim7.holds_tied_plain_at .later [] _ _ _ _ said_fnExactQuote (fun _ h => by cases h) (by kernel_rfl) (fun _ h => by cases h) fnExactQuote_row_tie rfl ⟨rfl, rfl⟩ (by kernel_rfl) rfl plain_fnExactQuote (by kernel_rfl)
#print axioms fnExactQuote_card
end Go.Proofs.YtceplgnijcdbfahDoor
