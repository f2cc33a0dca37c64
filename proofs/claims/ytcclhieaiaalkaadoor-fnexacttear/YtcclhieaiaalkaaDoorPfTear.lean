/-
  Proved: called with any arguments, the law FnExactTear returns true, and each argument reads behind the call as it read before; the listed package variables hold what the program's own text lays in them (the card ties this).
-/
import Derived.Test.YtcclhieaiaalkaaDoorLwT
import Derived.Test.YtcclhieaiaalkaaDoorDoor
import Derived.Test.YtcclhieaiaalkaaDoorCards
import Derived.Test.YtcclhieaiaalkaaDoorTie
import Derived.ProofKit
import Derived.OpenShut
import Derived.ShutString
import Derived.ChangeOld
import Derived.Below
import Derived.LaidMore
import Derived.Stop.Joined
import Derived.WalkSmall
import Derived.SevenTiedAt
namespace Go.Proofs.YtcclhieaiaalkaaDoor
open Go.ChangeShapes Go.WideShapes Go.ChangeAt Go.RowKit
open Go.ChangeMaps (open_string shut_string)
set_option linter.unusedVariables false

theorem own_fnExactTear : ownKnob Tryd.prog.godebug = none := by kernel_rfl
theorem laidOut_fnExactTear : laidOutB Tryd.prog = true := by kernel_rfl
theorem gl0_fnExactTear : Tryd.prog.globalNamed ((Rows.fnExactTearRow.laid.map (·.1)).getD 0 default) = some 0 := by kernel_rfl
theorem gt0_fnExactTear : (Tryd.prog.globals[0]?).map (·.type) = some 95 := by kernel_rfl
theorem gl1_fnExactTear : Tryd.prog.globalNamed ((Rows.fnExactTearRow.laid.map (·.1)).getD 1 default) = some 1 := by kernel_rfl
theorem gt1_fnExactTear : (Tryd.prog.globals[1]?).map (·.type) = some 95 := by kernel_rfl
theorem gv0_fnExactTear : Tryd.prog.globalNamed (Rows.fnExactTearSpec.vars.getD 0 default) = some 0 := by kernel_rfl
theorem gu0_fnExactTear : (Tryd.prog.globals[0]?).map (·.type) = some 95 := by kernel_rfl
theorem gv1_fnExactTear : Tryd.prog.globalNamed (Rows.fnExactTearSpec.vars.getD 1 default) = some 1 := by kernel_rfl
theorem gu1_fnExactTear : (Tryd.prog.globals[1]?).map (·.type) = some 95 := by kernel_rfl
theorem door_fnExactTear (os : Os) (args : Array Value) : laidMetH Tryd.prog Rows.fnExactTearRow.laid ((World.doorLaid Tryd.prog 400 os).forCall (fun _ _ => 0) ⟨#[], args, []⟩).memory :=
  laidMetH_of_parts3 (fuel := 8) (laidMet_of_run' 8 (by kernel_rfl) (by kernel_rfl)) (by kernel_rfl) (by kernel_rfl)

set_option maxRecDepth 100000 in
theorem lifted_fnExactTear (os : Os) (started : os.Started) (H : Type) (enc : TypeId × Value → H) :
    ReturnsInHanded {} Tryd.checked os 5 .any (fun w args => (Rows.fnExactTearSpec.pre enc Tryd.prog Tryd.f5 [] false w args ∧ laidMetH Tryd.prog Rows.fnExactTearRow.laid w) ∧ sizedMet enc Tryd.prog Tryd.f5 (OpenSpec.ofChange Rows.fnExactTearSpec) false w args)
      (Rows.fnExactTearSpec.post enc Tryd.prog Tryd.f5 false true false false) := by
  refine returnsInHanded_of_change_and (C := Tryd.checked) (X := fun w _ => laidMetH Tryd.prog Rows.fnExactTearRow.laid w) (fun _ _ _ hh h => h.of_heap hh) own_fnExactTear started (by kernel_rfl) Tryd.func5
    (ChangeSpec.witness_shaped (enc := enc) (C := Tryd.checked) (os := os) (X := fun w _ => laidMetH Tryd.prog Rows.fnExactTearRow.laid w) false (World.doorLaid Tryd.prog 400 os) #[.slice none 0 0, .slice none 0 0, .int .i64 0] 8 rfl (World.shaped_of_RefB (by kernel_rfl) (by kernel_rfl)) (by kernel_rfl) (by kernel_rfl) (by kernel_rfl) (door_fnExactTear os _)) ?_
  intro W base args ds gs before hval0 hW _ _ hL _
  have hval : ∀ (j : Nat) t v, Tryd.f5.params[j]? = some t → args[j]? = some v → Value.okWide Tryd.prog W .any base t v := hval0
  have hW' := hW
  obtain ⟨p, q, hA0, hV, rfl, hfz, hnd⟩ := hW
  have hA : DataW.TrodAll enc Tryd.prog W 0 (fun _ => true) true Tryd.f5.params.toList args.toList ds p := hA0
  rw [Tryd.params5] at hA hval
  obtain ⟨v0, vs0, d0, ds0, p0, q0, hargs, rfl, rfl, h0, r0⟩ := trodAll_cons hA
  obtain ⟨v1, vs1, d1, ds1, p1, q1, rfl, rfl, rfl, h1, r1⟩ := trodAll_cons r0
  obtain ⟨v2, vs2, d2, ds2, p2, q2, rfl, rfl, rfl, h2, r2⟩ := trodAll_cons r1
  obtain ⟨rfl, rfl, rfl⟩ := trodAll_nil r2
  obtain rfl : args = #[v0, v1, v2] := by cases args; simp_all
  obtain ⟨a0, len0, cap0, rfl⟩ := okWide_slice Tryd.underlying22 (hval 0 22 v0 rfl rfl)
  have k0 := h0
  have lt0 : ∀ x ∈ p0, x.block < W.heap.size := by obtain ⟨m, hm⟩ := k0; exact DataW.trod_lt m _ _ _ hm
  obtain ⟨z0, w0⟩ : ∃ zs, IsRow .u8 W a0 len0 cap0 zs := by
    obtain ⟨fuel, hf⟩ := h0
    rcases open_ints Tryd.underlying22 Tryd.underlying5 (by kernel_rfl) hf with ⟨hcs, _⟩ | ⟨x, l, c, zs, hcs, _, hl, hm, hz, _, hcell, hwz⟩
    · simp [Value.cells] at hcs
      obtain ⟨rfl, rfl, rfl⟩ := hcs
      exact ⟨[], .inl ⟨rfl, rfl, rfl, rfl⟩⟩
    · simp [Value.cells] at hcs
      obtain ⟨rfl, rfl, rfl⟩ := hcs
      exact ⟨zs, .inr ⟨_, rfl, hl, hm, by simpa using hz, hcell, hwz⟩⟩
  obtain ⟨a1, len1, cap1, rfl⟩ := okWide_slice Tryd.underlying22 (hval 1 22 v1 rfl rfl)
  have k1 := h1
  have lt1 : ∀ x ∈ p1, x.block < W.heap.size := by obtain ⟨m, hm⟩ := k1; exact DataW.trod_lt m _ _ _ hm
  obtain ⟨z1, w1⟩ : ∃ zs, IsRow .u8 W a1 len1 cap1 zs := by
    obtain ⟨fuel, hf⟩ := h1
    rcases open_ints Tryd.underlying22 Tryd.underlying5 (by kernel_rfl) hf with ⟨hcs, _⟩ | ⟨x, l, c, zs, hcs, _, hl, hm, hz, _, hcell, hwz⟩
    · simp [Value.cells] at hcs
      obtain ⟨rfl, rfl, rfl⟩ := hcs
      exact ⟨[], .inl ⟨rfl, rfl, rfl, rfl⟩⟩
    · simp [Value.cells] at hcs
      obtain ⟨rfl, rfl, rfl⟩ := hcs
      exact ⟨zs, .inr ⟨_, rfl, hl, hm, by simpa using hz, hcell, hwz⟩⟩
  obtain ⟨a2, rfl, rfl, rfl, w2⟩ := open_int Tryd.underlying3 (hval 2 3 v2 rfl rfl) h2
  rw [MakeChecks.laidMetH_plain _ _ _ (by kernel_rfl)] at hL
  have e0 : Err W 0 := laid_err hL gl0_fnExactTear gt0_fnExactTear Tryd.underlying95
  have e1 : Err W 1 := laid_err hL.tail gl1_fnExactTear gt1_fnExactTear Tryd.underlying95
  obtain ⟨g0, t0, cs0, f0, y0, q0', g1, t1, cs1, f1, y1, q1', rfl, hg0, ht0, hv0, hd0, hg1, ht1, hv1, hd1, hq⟩ := trodVars_two hV
  obtain rfl := Option.some.inj (gv0_fnExactTear.symm.trans hg0)
  obtain rfl := Option.some.inj (gu0_fnExactTear.symm.trans ht0)
  obtain ⟨x0, rfl, ix0, rfl, rfl, cx0⟩ := token_of hg0 Tryd.underlying95 hv0 hd0
  obtain rfl := Option.some.inj (gv1_fnExactTear.symm.trans hg1)
  obtain rfl := Option.some.inj (gu1_fnExactTear.symm.trans ht1)
  obtain ⟨x1, rfl, ix1, rfl, rfl, cx1⟩ := token_of hg1 Tryd.underlying95 hv1 hd1
  clear hA0 hval0
  refine (lawTear_walk a0 len0 cap0 z0 a1 len1 cap1 z1 a2 W w0 w1 w2 e0 e1 e0.lt e1.lt).mono fun e W' ⟨he, bel⟩ => ?_
  subst he
  exact ⟨_, rfl, _, _, _, [], _, [.cell 0 0, .cell 1 0], hW', trodAll_mk1 (shut_bool Tryd.underlying4 _), (trodAll_cons_mk (Below.trod laidOut_fnExactTear (by kernel_rfl) (of_decide_eq_true (by kernel_rfl)) k0 bel lt0) (trodAll_cons_mk (Below.trod laidOut_fnExactTear (by kernel_rfl) (of_decide_eq_true (by kernel_rfl)) k1 bel lt1) (trodAll_cons_mk (shut_int Tryd.underlying3 w2) trodAll_mk0))), vars_read2 enc gv0_fnExactTear gu0_fnExactTear Tryd.underlying95 (var?_below bel gv0_fnExactTear e0.lt hv0) ix0 gv1_fnExactTear gu1_fnExactTear Tryd.underlying95 (var?_below bel gv1_fnExactTear e1.lt hv1) ix1 _, bel.frame _, fun h => by cases h⟩

theorem said_fnExactTear : Rows.FnExactTearSaid :=
  OpenClaim.holds_of_wide 5 Tryd.f5 rfl rfl rfl rfl rfl rfl rfl ⟨rfl, rfl, rfl, rfl, rfl⟩ rfl rfl rfl rfl rfl (by kernel_rfl) Tryd.func5 (by kernel_rfl)
    (of_decide_eq_true (by kernel_rfl)) (by unfold Func.isWrapper; first | (rw [if_pos (by decide +kernel)]; kernel_rfl) | (rw [if_neg (by decide +kernel)]; exact ⟨rfl, rfl⟩))
    (fun os started H enc _ => lifted_fnExactTear os started H enc)

theorem plain_fnExactTear (f : FuncId) (fn : Func) (hf : Tryd.pinned.checked.prog.funcNamed Rows.fnExactTearRow.func = some f) (hfn : Tryd.pinned.checked.prog.funcs[f]? = some fn) :
    Rows.fnExactTearCard.stood.looks = Tryd.pinned.checked.prog.looks [] ∧ ∀ (j : Nat) t, fn.params[j]? = some t → Tryd.pinned.checked.prog.wantsStandIn t = false := by
  obtain rfl : f = 5 := Option.some.inj ((show Tryd.prog.funcNamed Rows.fnExactTearRow.func = some 5 by kernel_rfl).symm.trans hf) |>.symm
  obtain rfl : fn = Tryd.f5 := (Option.some.inj (Tryd.func5.symm.trans hfn)).symm
  refine ⟨by kernel_rfl, fun j t ht => ?_⟩
  rw [Tryd.params5] at ht
  have hm : t ∈ [22, 22, 3] := by simpa using Array.mem_of_getElem? ht
  have hall : ([22, 22, 3].all fun u => !Tryd.prog.wantsStandIn u) = true := by kernel_rfl
  exact (show Tryd.prog.wantsStandIn t = false by simpa using List.all_eq_true.1 hall t hm)

theorem fnExactTear_card : Rows.FnExactTearCardSaid :=
  Claim7.holds_tied_plain_at .later [] _ _ _ _ said_fnExactTear (fun _ h => by cases h) (by kernel_rfl) (fun _ h => by cases h) fnExactTear_row_tie rfl ⟨rfl, rfl⟩ (by kernel_rfl) rfl plain_fnExactTear (by kernel_rfl)
#print axioms fnExactTear_card
end Go.Proofs.YtcclhieaiaalkaaDoor

