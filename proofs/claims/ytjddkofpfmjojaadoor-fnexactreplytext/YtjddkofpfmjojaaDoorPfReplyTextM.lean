/-
  Proved: called with any arguments, the law FnExactReplyText returns true, and each argument reads behind the call as it read before; the listed package variables hold what the program's own text lays in them (the card ties this).
-/
import Derived.Test.YtjddkofpfmjojaaDoorMb4
import Derived.Test.YtjddkofpfmjojaaDoorMb2
import Derived.Test.YtjddkofpfmjojaaDoorCards
import Derived.Test.YtjddkofpfmjojaaDoorTie
import Derived.ProofKit
import Derived.OpenShut
import Derived.ShutString
import Derived.ChangeOld
import Derived.Below
import Derived.LaidMore
import Derived.Stop.Joined
import Derived.WalkSmall
import Derived.SevenTiedAt
import Derived.Lib.LaidTab
import Derived.Stop.LaidErr
namespace Go.Proofs.YtjddkofpfmjojaaDoor
open Go.ChangeShapes Go.WideShapes Go.ChangeAt Go.RowKit
open Go.ChangeMaps (open_string shut_string)
set_option linter.unusedVariables false

theorem own_fnExactReplyText : ownKnob Tryd.prog.godebug = none := by kernel_rfl
theorem laidOut_fnExactReplyText : laidOutB Tryd.prog = true := by kernel_rfl
theorem gl2_fnExactReplyText : Tryd.prog.globalNamed ((Rows.fnExactReplyTextRow.laid.map (·.1)).getD 2 default) = some 2 := by kernel_rfl
theorem gt2_fnExactReplyText : (Tryd.prog.globals[2]?).map (·.type) = some 137 := by kernel_rfl
theorem pow_fnExactReplyText : Rows.laid_internal_strconv_uint64pow10 (H := Unit) = Lib.tabData .u64 Lib.pow10Tab := by kernel_rfl
theorem gl3_fnExactReplyText : Tryd.prog.globalNamed ((Rows.fnExactReplyTextRow.laid.map (·.1)).getD 3 default) = some 0 := by kernel_rfl
theorem gt3_fnExactReplyText : (Tryd.prog.globals[0]?).map (·.type) = some 108 := by kernel_rfl
theorem gv0_fnExactReplyText : Tryd.prog.globalNamed (Rows.fnExactReplyTextSpec.vars.getD 0 default) = some 0 := by kernel_rfl
theorem gu0_fnExactReplyText : (Tryd.prog.globals[0]?).map (·.type) = some 108 := by kernel_rfl
theorem door_fnExactReplyText (os : Os) (args : Array Value) : laidMetH Tryd.prog Rows.fnExactReplyTextRow.laid ((World.doorLaid Tryd.prog 400 os).forCall (fun _ _ => 0) ⟨#[], args, []⟩).memory :=
  laidMetH_of_parts3 (fuel := 8) (laidMet_of_run' 8 (by kernel_rfl) (by kernel_rfl)) (by kernel_rfl) (by kernel_rfl)

set_option maxRecDepth 100000 in
theorem lifted_fnExactReplyText (os : Os) (started : os.Started) (H : Type) (enc : TypeId × Value → H) :
    ReturnsInHanded {} Tryd.checked os 4 .any (fun w args => (Rows.fnExactReplyTextSpec.pre enc Tryd.prog Tryd.f4 [] false w args ∧ laidMetH Tryd.prog Rows.fnExactReplyTextRow.laid w) ∧ sizedMet enc Tryd.prog Tryd.f4 (OpenSpec.ofChange Rows.fnExactReplyTextSpec) false w args)
      (Rows.fnExactReplyTextSpec.post enc Tryd.prog Tryd.f4 false true false false) := by
  refine returnsInHanded_of_change_and (C := Tryd.checked) (X := fun w _ => laidMetH Tryd.prog Rows.fnExactReplyTextRow.laid w) (fun _ _ _ hh h => h.of_heap hh) own_fnExactReplyText started (by kernel_rfl) Tryd.func4
    (ChangeSpec.witness_shaped (enc := enc) (C := Tryd.checked) (os := os) (X := fun w _ => laidMetH Tryd.prog Rows.fnExactReplyTextRow.laid w) false (World.doorLaid Tryd.prog 400 os) #[.agg #[.int .i64 0, .int .i64 0, .int .i64 0, .int .i64 0, .int .i64 0, .string ByteArray.empty, .string ByteArray.empty, .string ByteArray.empty, .string ByteArray.empty, .int .i64 0, .bool false, .int .i64 0, .slice none 0 0]] 8 rfl (World.shaped_of_RefB (by kernel_rfl) (by kernel_rfl)) (by kernel_rfl) (by kernel_rfl) (by kernel_rfl) (door_fnExactReplyText os _)) ?_
  intro W base args ds gs before hval0 hW _ _ hL _
  have hval : ∀ (j : Nat) t v, Tryd.f4.params[j]? = some t → args[j]? = some v → Value.okWide Tryd.prog W .any base t v := hval0
  have hW' := hW
  obtain ⟨p, q, hA0, hV, rfl, hfz, hnd⟩ := hW
  have hA : DataW.TrodAll enc Tryd.prog W 0 (fun _ => true) true Tryd.f4.params.toList args.toList ds p := hA0
  rw [Tryd.params4] at hA hval
  obtain ⟨v0, vs0, d0, ds0, p0, q0, hargs, rfl, rfl, h0, r0⟩ := trodAll_cons hA
  obtain ⟨rfl, rfl, rfl⟩ := trodAll_nil r0
  obtain rfl : args = #[v0] := by cases args; simp_all
  have k0 := h0
  have lt0 : ∀ x ∈ p0, x.block < W.heap.size := by obtain ⟨m, hm⟩ := k0; exact DataW.trod_lt m _ _ _ hm
  obtain ⟨kdr0, cr0, er0, nr0, kr0, kyr0, vlr0, lor0, hir0, mor0, bkr0, cor0, par0, pnr0, pcr0, psr0, rfl, w0⟩ := open_reply (hval 0 47 v0 rfl rfl) h0
  rw [MakeChecks.laidMetH_plain _ _ _ (by kernel_rfl)] at hL
  have tb : Tab W := Lib.tabIs_of_head gl2_fnExactReplyText gt2_fnExactReplyText Tryd.underlying137 Tryd.underlying129 (by kernel_rfl) (by kernel_rfl) (by rw [← pow_fnExactReplyText]; exact hL.tail.tail)
  have tl : 2 < W.heap.size := block_lt (tb.cell gl2_fnExactReplyText 0 (by decide))
  have e3 : Err W 0 := laid_err hL.tail.tail.tail gl3_fnExactReplyText gt3_fnExactReplyText Tryd.underlying108
  obtain ⟨g0, t0, cs0, f0, y0, q0', rfl, hg0, ht0, hv0, hd0, hq⟩ := trodVars_one hV
  obtain rfl := Option.some.inj (gv0_fnExactReplyText.symm.trans hg0)
  obtain rfl := Option.some.inj (gu0_fnExactReplyText.symm.trans ht0)
  obtain ⟨x0, rfl, ix0, rfl, rfl, cx0⟩ := token_of hg0 Tryd.underlying108 hv0 hd0
  clear hA0 hval0
  refine (lawReplyText_walk kdr0 cr0 er0 nr0 kr0 kyr0 vlr0 lor0 hir0 mor0 bkr0 cor0 par0 pnr0 pcr0 psr0 W w0 tb e3 e3.lt tl).mono fun e W' ⟨he, bel⟩ => ?_
  subst he
  exact ⟨_, rfl, _, _, _, [], _, [.cell 0 0], hW', trodAll_mk1 (shut_bool Tryd.underlying4 _), (trodAll_cons_mk (Below.trod laidOut_fnExactReplyText (by kernel_rfl) (of_decide_eq_true (by kernel_rfl)) k0 bel lt0) trodAll_mk0), vars_read1 enc gv0_fnExactReplyText gu0_fnExactReplyText Tryd.underlying108 (var?_below bel gv0_fnExactReplyText e3.lt hv0) ix0 _, bel.frame _, fun h => by cases h⟩

theorem said_fnExactReplyText : Rows.FnExactReplyTextSaid :=
  OpenClaim.holds_of_wide 4 Tryd.f4 rfl rfl rfl rfl rfl rfl rfl ⟨rfl, rfl, rfl, rfl, rfl⟩ rfl rfl rfl rfl rfl (by kernel_rfl) Tryd.func4 (by kernel_rfl)
    (of_decide_eq_true (by kernel_rfl)) (by unfold Func.isWrapper; first | (rw [if_pos (by decide +kernel)]; kernel_rfl) | (rw [if_neg (by decide +kernel)]; exact ⟨rfl, rfl⟩))
    (fun os started H enc _ => lifted_fnExactReplyText os started H enc)

theorem plain_fnExactReplyText (f : FuncId) (fn : Func) (hf : Tryd.pinned.checked.prog.funcNamed Rows.fnExactReplyTextRow.func = some f) (hfn : Tryd.pinned.checked.prog.funcs[f]? = some fn) :
    Rows.fnExactReplyTextCard.stood.looks = Tryd.pinned.checked.prog.looks [] ∧ ∀ (j : Nat) t, fn.params[j]? = some t → Tryd.pinned.checked.prog.wantsStandIn t = false := by
  obtain rfl : f = 4 := Option.some.inj ((show Tryd.prog.funcNamed Rows.fnExactReplyTextRow.func = some 4 by kernel_rfl).symm.trans hf) |>.symm
  obtain rfl : fn = Tryd.f4 := (Option.some.inj (Tryd.func4.symm.trans hfn)).symm
  refine ⟨by kernel_rfl, fun j t ht => ?_⟩
  rw [Tryd.params4] at ht
  have hm : t ∈ [47] := by simpa using Array.mem_of_getElem? ht
  have hall : ([47].all fun u => !Tryd.prog.wantsStandIn u) = true := by kernel_rfl
  exact (show Tryd.prog.wantsStandIn t = false by simpa using List.all_eq_true.1 hall t hm)

theorem fnExactReplyText_card : Rows.FnExactReplyTextCardSaid :=
  Claim7.holds_tied_plain_at .later [] _ _ _ _ said_fnExactReplyText (fun _ h => by cases h) (by kernel_rfl) (fun _ h => by cases h) fnExactReplyText_row_tie rfl ⟨rfl, rfl⟩ (by kernel_rfl) rfl plain_fnExactReplyText (by kernel_rfl)
#print axioms fnExactReplyText_card
end Go.Proofs.YtjddkofpfmjojaaDoor

