/-
  The laws FnExactMetaOk, FnExactMetaBytes and FnExactMetaRead answer true at every argument.
-/
import Derived.Test.YtijinngmfalfcabDoorMtJ
import Derived.Test.YtijinngmfalfcabDoorMarks
namespace Go.Proofs.YtijinngmfalfcabDoor
open Go.RowKit
theorem results_mt1 {fn : Func} {p : Tmp} (h : fn.results = #[.cell p 41]) (tmps : Array Value) (w : World) (g : Nat) {x y : Value} (hp : tmps.getD p undef = .pointer (some ⟨g, 0, none⟩))
    (c0 : w.cell? ⟨g, 0, none⟩ = some x) (c1 : w.cell? ⟨g, 1, none⟩ = some y) : (results fn tmps).run Tryd.prog w = .ok (.agg #[x, y]) w := by
  have hp' : tmps[p]?.getD undef = .pointer (some ⟨g, 0, none⟩) := by simpa using hp
  have hl : (loadVar 41 ⟨g, 0, none⟩).run Tryd.prog w = .ok (.agg #[x, y]) w := by go_simp
  simp [results, h, hp', asAddr, hl]
set_option maxHeartbeats 800000 in
theorem eqMeta_same (g r : Int) (w : World) : Calls Tryd.prog 18 #[.agg #[.int .i64 g, .int .i64 r], .agg #[.int .i64 g, .int .i64 r]] w fun e w' => e = .returned (.bool true) ∧ Below w.heap.size w w' := by
  have h1 : (g != g) = false := by simp
  have h2 : (r != r) = false := by simp
  go_enter Tryd.func18, Tryd.ntmps18
  go_wp2
  go_ret
  exact ⟨rfl, below_new (below_new (Below.refl _ _))⟩
theorem mt_facts (g r : Int) : (∀ i : Nat, 0 ≤ ((mtBytes g r).getD [])[i]?.getD 0 ∧ ((mtBytes g r).getD [])[i]?.getD 0 ≤ 255) ∧ ((mtBytes g r).getD []).length ≤ 4096 := by
  unfold mtBytes
  split
  · rename_i h
    obtain ⟨g0, g1, r0, r1⟩ := mtOk_facts h
    exact ⟨byte_at (mtFull_byte r0 r1), by rw [Option.getD_some, mtFull_len]; omega⟩
  · simp
/-- What a put leaves, in one form. -/
theorem Put.see {w w' : World} {r : Option (List Int)} {e : Ending} (h : Put w r e w') (hb : ∀ i : Nat, 0 ≤ (r.getD [])[i]?.getD 0 ∧ (r.getD [])[i]?.getD 0 ≤ 255) (hl : (r.getD []).length ≤ 4096) :
    ∃ a c, e = .returned (.tuple #[.slice a (r.getD []).length c, .bool r.isSome]) ∧ Rd w' a (r.getD []).length c (r.getD []) ∧ (∀ x, a = some x → w.heap.size ≤ x.block) ∧ Wb w' a (r.getD []).length ∧ Below w.heap.size w w' := by
  obtain ⟨hbel, ⟨rfl, rfl⟩ | ⟨v, zs, rfl, rfl, ho⟩⟩ := h
  · exact ⟨none, 0, rfl, ⟨rfl, by simp, by omega, by simp, by simp, fun h => by simp at h⟩, (fun x hx => by cases hx), (fun x hx => by cases hx), hbel⟩
  · simp only [Option.getD_some] at hb hl ⊢
    obtain ⟨a, c, rfl, hrd, hB⟩ := ho.rd hb (by omega)
    exact ⟨a, c, rfl, hrd, hB, ho.wb rfl _, hbel⟩
end Go.Proofs.YtijinngmfalfcabDoor

