/-
  Proved: called with any arguments, the law FnExactPrepEdits returns true, and each argument reads behind the call as it read before; the listed package variables hold what the program's own text lays in them (the card ties this).
-/
import Derived.Test.YtgnjknbgahickabDoorMp3
import Derived.Test.YtgnjknbgahickabDoorMp2
import Derived.Test.YtgnjknbgahickabDoorCards
import Derived.Test.YtgnjknbgahickabDoorTie
import Derived.ProofKit
import Derived.OpenShut
import Derived.ShutString
import Derived.ChangeOld
import Derived.Below
import Derived.LaidMore
import Derived.Stop.Joined
import Derived.WalkSmall
import Derived.SevenTiedAt
import Derived.Lib.LaidTab
import Derived.Stop.LaidErr
namespace Go.Proofs.YtgnjknbgahickabDoor
open Go.ChangeShapes Go.WideShapes Go.ChangeAt Go.RowKit
open Go.ChangeMaps (open_string shut_string)
set_option linter.unusedVariables false

theorem own_fnExactPrepEdits : ownKnob Tryd.prog.godebug = none := by kernel_rfl
theorem laidOut_fnExactPrepEdits : laidOutB Tryd.prog = true := by kernel_rfl
theorem gl2_fnExactPrepEdits : Tryd.prog.globalNamed ((Rows.fnExactPrepEditsRow.laid.map (·.1)).getD 2 default) = some 2 := by kernel_rfl
theorem gt2_fnExactPrepEdits : (Tryd.prog.globals[2]?).map (·.type) = some 117 := by kernel_rfl
theorem pow_fnExactPrepEdits : Rows.laid_internal_strconv_uint64pow10 (H := Unit) = Lib.tabData .u64 Lib.pow10Tab := by kernel_rfl
theorem gl3_fnExactPrepEdits : Tryd.prog.globalNamed ((Rows.fnExactPrepEditsRow.laid.map (·.1)).getD 3 default) = some 1 := by kernel_rfl
theorem gt3_fnExactPrepEdits : (Tryd.prog.globals[1]?).map (·.type) = some 94 := by kernel_rfl
theorem gl4_fnExactPrepEdits : Tryd.prog.globalNamed ((Rows.fnExactPrepEditsRow.laid.map (·.1)).getD 4 default) = some 0 := by kernel_rfl
theorem gt4_fnExactPrepEdits : (Tryd.prog.globals[0]?).map (·.type) = some 94 := by kernel_rfl
theorem gv0_fnExactPrepEdits : Tryd.prog.globalNamed (Rows.fnExactPrepEditsSpec.vars.getD 0 default) = some 0 := by kernel_rfl
theorem gu0_fnExactPrepEdits : (Tryd.prog.globals[0]?).map (·.type) = some 94 := by kernel_rfl
theorem gv1_fnExactPrepEdits : Tryd.prog.globalNamed (Rows.fnExactPrepEditsSpec.vars.getD 1 default) = some 1 := by kernel_rfl
theorem gu1_fnExactPrepEdits : (Tryd.prog.globals[1]?).map (·.type) = some 94 := by kernel_rfl
theorem door_fnExactPrepEdits (os : Os) (args : Array Value) : laidMetH Tryd.prog Rows.fnExactPrepEditsRow.laid ((World.doorLaid Tryd.prog 400 os).forCall (fun _ _ => 0) ⟨#[], args, []⟩).memory :=
  laidMetH_of_parts3 (fuel := 8) (laidMet_of_run' 8 (by kernel_rfl) (by kernel_rfl)) (by kernel_rfl) (by kernel_rfl)

set_option maxRecDepth 100000 in
theorem lifted_fnExactPrepEdits (os : Os) (started : os.Started) (H : Type) (enc : TypeId × Value → H) :
    ReturnsInHanded {} Tryd.checked os 5 .any (fun w args => (Rows.fnExactPrepEditsSpec.pre enc Tryd.prog Tryd.f5 [] false w args ∧ laidMetH Tryd.prog Rows.fnExactPrepEditsRow.laid w) ∧ sizedMet enc Tryd.prog Tryd.f5 (OpenSpec.ofChange Rows.fnExactPrepEditsSpec) false w args)
      (Rows.fnExactPrepEditsSpec.post enc Tryd.prog Tryd.f5 false true false false) := by
  refine returnsInHanded_of_change_and (C := Tryd.checked) (X := fun w _ => laidMetH Tryd.prog Rows.fnExactPrepEditsRow.laid w) (fun _ _ _ hh h => h.of_heap hh) own_fnExactPrepEdits started (by kernel_rfl) Tryd.func5
    (ChangeSpec.witness_shaped (enc := enc) (C := Tryd.checked) (os := os) (X := fun w _ => laidMetH Tryd.prog Rows.fnExactPrepEditsRow.laid w) false (World.doorLaid Tryd.prog 400 os) #[.agg #[.int .i64 0, .int .i64 0, .int .i64 0, .slice none 0 0]] 8 rfl (World.shaped_of_RefB (by kernel_rfl) (by kernel_rfl)) (by kernel_rfl) (by kernel_rfl) (by kernel_rfl) (door_fnExactPrepEdits os _)) ?_
  intro W base args ds gs before hval0 hW _ _ hL _
  have hval : ∀ (j : Nat) t v, Tryd.f5.params[j]? = some t → args[j]? = some v → Value.okWide Tryd.prog W .any base t v := hval0
  have hW' := hW
  obtain ⟨p, q, hA0, hV, rfl, hfz, hnd⟩ := hW
  have hA : DataW.TrodAll enc Tryd.prog W 0 (fun _ => true) true Tryd.f5.params.toList args.toList ds p := hA0
  rw [Tryd.params5] at hA hval
  obtain ⟨v0, vs0, d0, ds0, p0, q0, hargs, rfl, rfl, h0, r0⟩ := trodAll_cons hA
  obtain ⟨rfl, rfl, rfl⟩ := trodAll_nil r0
  obtain rfl : args = #[v0] := by cases args; simp_all
  have k0 := h0
  have lt0 : ∀ x ∈ p0, x.block < W.heap.size := by obtain ⟨m, hm⟩ := k0; exact DataW.trod_lt m _ _ _ hm
  obtain ⟨cr0, er0, nr0, rar0, rnr0, rcr0, rlr0, rfl, w0⟩ := open_prep (hval 0 41 v0 rfl rfl) h0
  rw [MakeChecks.laidMetH_plain _ _ _ (by kernel_rfl)] at hL
  have tb : Tab W := Lib.tabIs_of_head gl2_fnExactPrepEdits gt2_fnExactPrepEdits Tryd.underlying117 Tryd.underlying110 (by kernel_rfl) (by kernel_rfl) (by rw [← pow_fnExactPrepEdits]; exact hL.tail.tail)
  have tl : 2 < W.heap.size := block_lt (tb.cell gl2_fnExactPrepEdits 0 (by decide))
  have e3 : Err W 1 := laid_err hL.tail.tail.tail gl3_fnExactPrepEdits gt3_fnExactPrepEdits Tryd.underlying94
  have e4 : Err W 0 := laid_err hL.tail.tail.tail.tail gl4_fnExactPrepEdits gt4_fnExactPrepEdits Tryd.underlying94
  obtain ⟨g0, t0, cs0, f0, y0, q0', g1, t1, cs1, f1, y1, q1', rfl, hg0, ht0, hv0, hd0, hg1, ht1, hv1, hd1, hq⟩ := trodVars_two hV
  obtain rfl := Option.some.inj (gv0_fnExactPrepEdits.symm.trans hg0)
  obtain rfl := Option.some.inj (gu0_fnExactPrepEdits.symm.trans ht0)
  obtain ⟨x0, rfl, ix0, rfl, rfl, cx0⟩ := token_of hg0 Tryd.underlying94 hv0 hd0
  obtain rfl := Option.some.inj (gv1_fnExactPrepEdits.symm.trans hg1)
  obtain rfl := Option.some.inj (gu1_fnExactPrepEdits.symm.trans ht1)
  obtain ⟨x1, rfl, ix1, rfl, rfl, cx1⟩ := token_of hg1 Tryd.underlying94 hv1 hd1
  clear hA0 hval0
  refine (lawPrepEdits_door cr0 er0 nr0 rar0 rnr0 rcr0 rlr0 W w0 tb e4 e3 e4.lt e3.lt tl).mono fun e W' ⟨he, bel⟩ => ?_
  subst he
  exact ⟨_, rfl, _, _, _, [], _, [.cell 0 0, .cell 1 0], hW', trodAll_mk1 (shut_bool Tryd.underlying4 _), (trodAll_cons_mk (Below.trod laidOut_fnExactPrepEdits (by kernel_rfl) (of_decide_eq_true (by kernel_rfl)) k0 bel lt0) trodAll_mk0), vars_read2 enc gv0_fnExactPrepEdits gu0_fnExactPrepEdits Tryd.underlying94 (var?_below bel gv0_fnExactPrepEdits e4.lt hv0) ix0 gv1_fnExactPrepEdits gu1_fnExactPrepEdits Tryd.underlying94 (var?_below bel gv1_fnExactPrepEdits e3.lt hv1) ix1 _, bel.frame _, fun h => by cases h⟩

theorem said_fnExactPrepEdits : Rows.FnExactPrepEditsSaid :=
  OpenClaim.holds_of_wide 5 Tryd.f5 rfl rfl rfl rfl rfl rfl rfl ⟨rfl, rfl, rfl, rfl, rfl⟩ rfl rfl rfl rfl rfl (by kernel_rfl) Tryd.func5 (by kernel_rfl)
    (of_decide_eq_true (by kernel_rfl)) (by unfold Func.isWrapper; first | (rw [if_pos (by decide +kernel)]; kernel_rfl) | (rw [if_neg (by decide +kernel)]; exact ⟨rfl, rfl⟩))
    (fun os started H enc _ => lifted_fnExactPrepEdits os started H enc)

theorem plain_fnExactPrepEdits (f : FuncId) (fn : Func) (hf : Tryd.pinned.checked.prog.funcNamed Rows.fnExactPrepEditsRow.func = some f) (hfn : Tryd.pinned.checked.prog.funcs[f]? = some fn) :
    Rows.fnExactPrepEditsCard.stood.looks = Tryd.pinned.checked.prog.looks [] ∧ ∀ (j : Nat) t, fn.params[j]? = some t → Tryd.pinned.checked.prog.wantsStandIn t = false := by
  obtain rfl : f = 5 := Option.some.inj ((show Tryd.prog.funcNamed Rows.fnExactPrepEditsRow.func = some 5 by kernel_rfl).symm.trans hf) |>.symm
  obtain rfl : fn = Tryd.f5 := (Option.some.inj (Tryd.func5.symm.trans hfn)).symm
  refine ⟨by kernel_rfl, fun j t ht => ?_⟩
  rw [Tryd.params5] at ht
  have hm : t ∈ [41] := by simpa using Array.mem_of_getElem? ht
  have hall : ([41].all fun u => !Tryd.prog.wantsStandIn u) = true := by kernel_rfl
  exact (show Tryd.prog.wantsStandIn t = false by simpa using List.all_eq_true.1 hall t hm)

theorem fnExactPrepEdits_card : Rows.FnExactPrepEditsCardSaid :=
  Claim7.holds_tied_plain_at .later [] _ _ _ _ said_fnExactPrepEdits (fun _ h => by cases h) (by kernel_rfl) (fun _ h => by cases h) fnExactPrepEdits_row_tie rfl ⟨rfl, rfl⟩ (by kernel_rfl) rfl plain_fnExactPrepEdits (by kernel_rfl)
#print axioms fnExactPrepEdits_card
end Go.Proofs.YtgnjknbgahickabDoor

