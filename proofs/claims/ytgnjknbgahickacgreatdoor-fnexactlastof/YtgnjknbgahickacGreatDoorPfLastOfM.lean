/-
  Proved: called with any arguments, the law FnExactLastOf returns true, and each argument reads behind the call as it read before; the listed package variables hold what the program's own text lays in them (the card ties this).
-/
import Derived.Test.YtgnjknbgahickacGreatDoorMq4
import Derived.Test.YtgnjknbgahickacGreatDoorMq3
import Derived.Test.YtgnjknbgahickacGreatDoorCards
import Derived.Test.YtgnjknbgahickacGreatDoorTie
import Derived.ProofKit
import Derived.OpenShut
import Derived.ShutString
import Derived.ChangeOld
import Derived.Below
import Derived.LaidMore
import Derived.Stop.Joined
import Derived.WalkSmall
import Derived.SevenTiedAt
import Derived.Lib.LaidTab
import Derived.Shelf.Vars
import Derived.Stop.LaidErr
namespace Go.Proofs.YtgnjknbgahickacGreatDoor
open Go.ChangeShapes Go.WideShapes Go.ChangeAt Go.RowKit
open Go.ChangeMaps (open_string shut_string)
set_option linter.unusedVariables false

theorem own_fnExactLastOf : ownKnob Tryz.prog.godebug = none := by kernel_rfl
theorem laidOut_fnExactLastOf : laidOutB Tryz.prog = true := by kernel_rfl
theorem gl2_fnExactLastOf : Tryz.prog.globalNamed ((Rows.fnExactLastOfRow.laid.map (·.1)).getD 2 default) = some 3 := by kernel_rfl
theorem gt2_fnExactLastOf : (Tryz.prog.globals[3]?).map (·.type) = some 233 := by kernel_rfl
theorem pow_fnExactLastOf : Rows.laid_internal_strconv_uint64pow10 (H := Unit) = Lib.tabData .u64 Lib.pow10Tab := by kernel_rfl
theorem gl3_fnExactLastOf : Tryz.prog.globalNamed ((Rows.fnExactLastOfRow.laid.map (·.1)).getD 3 default) = some 2 := by kernel_rfl
theorem gt3_fnExactLastOf : (Tryz.prog.globals[2]?).map (·.type) = some 167 := by kernel_rfl
theorem gl4_fnExactLastOf : Tryz.prog.globalNamed ((Rows.fnExactLastOfRow.laid.map (·.1)).getD 4 default) = some 1 := by kernel_rfl
theorem gt4_fnExactLastOf : (Tryz.prog.globals[1]?).map (·.type) = some 167 := by kernel_rfl
theorem door_fnExactLastOf (os : Os) (args : Array Value) : laidMetH Tryz.prog Rows.fnExactLastOfRow.laid ((World.doorLaid Tryz.prog 400 os).forCall (fun _ _ => 0) ⟨#[], args, []⟩).memory :=
  laidMetH_of_parts3 (fuel := 8) (laidMet_of_run' 8 (by kernel_rfl) (by kernel_rfl)) (by kernel_rfl) (by kernel_rfl)

set_option maxRecDepth 100000 in
theorem lifted_fnExactLastOf (os : Os) (started : os.Started) (H : Type) (enc : TypeId × Value → H) :
    ReturnsInHanded {} Tryz.checked os 5 .any (fun w args => (Rows.fnExactLastOfSpec.pre enc Tryz.prog Tryz.f5 [] false w args ∧ laidMetH Tryz.prog Rows.fnExactLastOfRow.laid w) ∧ sizedMet enc Tryz.prog Tryz.f5 (OpenSpec.ofChange Rows.fnExactLastOfSpec) false w args)
      (Rows.fnExactLastOfSpec.post enc Tryz.prog Tryz.f5 false true false false) := by
  refine returnsInHanded_of_calls own_fnExactLastOf started (by kernel_rfl)
    (ChangeSpec.witness_shaped (enc := enc) (C := Tryz.checked) (os := os) (X := fun w _ => laidMetH Tryz.prog Rows.fnExactLastOfRow.laid w) false (World.doorLaid Tryz.prog 400 os) #[.agg #[.slice none 0 0], .int .i64 0] 8 rfl (World.shaped_of_RefB (by kernel_rfl) (by kernel_rfl)) (by kernel_rfl) (by kernel_rfl) (by kernel_rfl) (door_fnExactLastOf os _)) ?_
  intro w tape i _ hS _ hok hpre _
  obtain ⟨_, _, _, fn', hfn', _, _, _, _, hval0⟩ := hok
  obtain rfl : fn' = Tryz.f5 := Option.some.inj (hfn'.symm.trans Tryz.func5)
  obtain ⟨⟨⟨ds, gs, before, hW0, _⟩, hL0⟩, _⟩ := hpre
  have hW := DataW.Whole.of_heap (w' := w.forCall tape i) (by rfl) hW0
  have hL : laidMetH Tryz.prog Rows.fnExactLastOfRow.laid (w.forCall tape i) := hL0.of_heap (by rfl)
  suffices k : Calls Tryz.prog 5 i.args (w.forCall tape i) fun e W' => ∃ v, e = .returned v ∧ Rows.fnExactLastOfSpec.post enc Tryz.prog Tryz.f5 false true false false (w.forCall tape i) i.args v W' from k.mono fun e W' ⟨v, he, hp⟩ => by subst he; exact ChangeSpec.post_blind hp
  clear hW0 hL0 hfn'
  generalize w.forCall tape i = W at hS hval0 hW hL ⊢
  generalize i.args = args at hval0 hW ⊢
  generalize w.heap.size = base at hval0
  have hval : ∀ (j : Nat) t v, Tryz.f5.params[j]? = some t → args[j]? = some v → Value.okWide Tryz.prog W .any base t v := hval0
  have hW' := hW
  obtain ⟨p, q, hA0, hV, rfl, hfz, hnd⟩ := hW
  have hA : DataW.TrodAll enc Tryz.prog W 0 (fun _ => true) true Tryz.f5.params.toList args.toList ds p := hA0
  rw [Tryz.params5] at hA hval
  obtain ⟨v0, vs0, d0, ds0, p0, q0, hargs, rfl, rfl, h0, r0⟩ := trodAll_cons hA
  obtain ⟨v1, vs1, d1, ds1, p1, q1, rfl, rfl, rfl, h1, r1⟩ := trodAll_cons r0
  obtain ⟨rfl, rfl, rfl⟩ := trodAll_nil r1
  obtain rfl : args = #[v0, v1] := by cases args; simp_all
  have k0 := h0
  have lt0 : ∀ x ∈ p0, x.block < W.heap.size := by obtain ⟨m, hm⟩ := k0; exact DataW.trod_lt m _ _ _ hm
  obtain ⟨a0, n0, c0, ns0, rfl, w0⟩ := open_tree (hval 0 24 v0 rfl rfl) h0
  obtain ⟨a1, rfl, rfl, rfl, w1⟩ := open_int Tryz.underlying3 (hval 1 3 v1 rfl rfl) h1
  rw [MakeChecks.laidMetH_plain _ _ _ (by kernel_rfl)] at hL
  have tb : Tab W := Lib.tabIs_of_head gl2_fnExactLastOf gt2_fnExactLastOf Tryz.underlying233 Tryz.underlying153 (by kernel_rfl) (by kernel_rfl) (by rw [← pow_fnExactLastOf]; exact hL.tail.tail)
  have tl : 3 < W.heap.size := block_lt (tb.cell gl2_fnExactLastOf 0 (by decide))
  have e3 : Err W 2 := laid_err hL.tail.tail.tail gl3_fnExactLastOf gt3_fnExactLastOf Tryz.underlying167
  have e4 : Err W 1 := laid_err hL.tail.tail.tail.tail gl4_fnExactLastOf gt4_fnExactLastOf Tryz.underlying167
  obtain ⟨rfl, rfl⟩ := trodVars_none hV
  have ml : ∃ m, W.cell? ⟨0, 0, none⟩ = some (.int .i64 m) := Go.Proofs.cell_of_shapedOpen_int (zero := #[.int .i64 0]) (t := 3) hS (of_decide_eq_true (by kernel_rfl)) (by kernel_rfl) rfl (by kernel_rfl) (by kernel_rfl) Tryz.underlying3
  clear hA0 hval0
  refine (lawLastOf_walk a0 n0 c0 ns0 a1 W w0 w1 ⟨tb, e4, e3, ml, tl⟩).mono fun e W' ⟨he, bel⟩ => ?_
  subst he
  exact ⟨_, rfl, _, _, _, [], _, [], hW', trodAll_mk1 (shut_bool Tryz.underlying4 _), (trodAll_cons_mk (Below.trod laidOut_fnExactLastOf (by kernel_rfl) (of_decide_eq_true (by kernel_rfl)) k0 bel lt0) (trodAll_cons_mk (shut_int Tryz.underlying3 w1) trodAll_mk0)), rfl, bel.frame _, fun h => by cases h⟩

theorem said_fnExactLastOf : Rows.FnExactLastOfSaid :=
  OpenClaim.holds_of_wide 5 Tryz.f5 rfl rfl rfl rfl rfl rfl rfl ⟨rfl, rfl, rfl, rfl, rfl⟩ rfl rfl rfl rfl rfl (by kernel_rfl) Tryz.func5 (by kernel_rfl)
    (of_decide_eq_true (by kernel_rfl)) (by unfold Func.isWrapper; first | (rw [if_pos (by decide +kernel)]; kernel_rfl) | (rw [if_neg (by decide +kernel)]; exact ⟨rfl, rfl⟩))
    (fun os started H enc _ => lifted_fnExactLastOf os started H enc)

theorem plain_fnExactLastOf (f : FuncId) (fn : Func) (hf : Tryz.pinned.checked.prog.funcNamed Rows.fnExactLastOfRow.func = some f) (hfn : Tryz.pinned.checked.prog.funcs[f]? = some fn) :
    Rows.fnExactLastOfCard.stood.looks = Tryz.pinned.checked.prog.looks [] ∧ ∀ (j : Nat) t, fn.params[j]? = some t → Tryz.pinned.checked.prog.wantsStandIn t = false := by
  obtain rfl : f = 5 := Option.some.inj ((show Tryz.prog.funcNamed Rows.fnExactLastOfRow.func = some 5 by kernel_rfl).symm.trans hf) |>.symm
  obtain rfl : fn = Tryz.f5 := (Option.some.inj (Tryz.func5.symm.trans hfn)).symm
  refine ⟨by kernel_rfl, fun j t ht => ?_⟩
  rw [Tryz.params5] at ht
  have hm : t ∈ [24, 3] := by simpa using Array.mem_of_getElem? ht
  have hall : ([24, 3].all fun u => !Tryz.prog.wantsStandIn u) = true := by kernel_rfl
  exact (show Tryz.prog.wantsStandIn t = false by simpa using List.all_eq_true.1 hall t hm)

theorem fnExactLastOf_card : Rows.FnExactLastOfCardSaid :=
  Claim7.holds_tied_plain_at .later [] _ _ _ _ said_fnExactLastOf (fun _ h => by cases h) (by kernel_rfl) (fun _ h => by cases h) fnExactLastOf_row_tie rfl ⟨rfl, rfl⟩ (by kernel_rfl) rfl plain_fnExactLastOf (by kernel_rfl)
#print axioms fnExactLastOf_card
end Go.Proofs.YtgnjknbgahickacGreatDoor

