/-
  The laws FnExactMetaOk, FnExactMetaBytes and FnExactMetaRead answer true at every argument.
-/
import Derived.Test.YtpgogpphobafoaaMtJ
namespace Go.Proofs.Ytpgogpphobafoaa
open Go.RowKit
theorem results_mt1 {fn : Func} {p : Tmp} (h : fn.results = #[.cell p 35]) (tmps : Array Value) (w : World) (g : Nat) {x y : Value} (hp : tmps.getD p undef = .pointer (some ⟨g, 0, none⟩))
    (c0 : w.cell? ⟨g, 0, none⟩ = some x) (c1 : w.cell? ⟨g, 1, none⟩ = some y) : (results fn tmps).run Try.prog w = .ok (.agg #[x, y]) w := by
  have hp' : tmps[p]?.getD undef = .pointer (some ⟨g, 0, none⟩) := by simpa using hp
  have hl : (loadVar 35 ⟨g, 0, none⟩).run Try.prog w = .ok (.agg #[x, y]) w := by go_simp
  simp [results, h, hp', asAddr, hl]
set_option maxHeartbeats 800000 in
theorem toMeta_any (g r : Int) (w : World) : Calls Try.prog 11 #[.agg #[.int .i64 g, .int .i64 r]] w fun e w' => e = .returned (.agg #[.int .i64 g, .int .i64 r]) ∧ Below w.heap.size w w' := by
  go_enter Try.func11, Try.ntmps11
  go_wp2
  refine bodyPost_ret (results_mt1 (x := .int .i64 g) (y := .int .i64 r) rfl _ _ _ rfl (by go_simp) (by go_simp)) rfl ?_
  exact ⟨rfl, below_new (below_new (below_new (Below.refl _ _)))⟩
set_option maxHeartbeats 800000 in
theorem lawMetaOk_walk (g r : Int) (w : World) (_h : (Lit.int .i64 g).wf = true ∧ (Lit.int .i64 r).wf = true) : Calls Try.prog 4 #[.agg #[.int .i64 g, .int .i64 r]] w fun e w' => e = .returned (.bool true) ∧ Below w.heap.size w w' := by
  have B0 := hid (below_new (o := .cells #[.int .i64 g, .int .i64 r] 33) (w := w) (Below.refl _ _))
  have K0 := hid (Bk.new w 33 [.int .i64 g, .int .i64 r])
  go_enter Try.func4, Try.ntmps4
  go_wp2_with fail
  refine (toMeta_any g r _).mono ?_
  generalize w.alloc (.cells #[.int .i64 g, .int .i64 r] 33) = U at *
  rintro e w1 ⟨rfl, hb1⟩
  have B1 := hid (btw B0.out hb1)
  have K1 := hid (K0.out.below hb1)
  clear hb1 B0 K0
  go_wp2_with fail
  refine (specMetaOk_any g r _).mono ?_
  rintro e w2 ⟨rfl, hb2⟩
  have B2 := hid (btw B1.out hb2)
  have K2 := hid (K1.out.below hb2)
  clear hb2 B1 K1
  have c0 := K2.out.cell (j := 0) rfl
  have c1 := K2.out.cell (j := 1) rfl
  go_wp2_with fail
  refine (toMeta_any g r _).mono ?_
  rintro e w3 ⟨rfl, hb3⟩
  have B3 := hid (btw B2.out hb3)
  clear hb3 B2 c0 c1
  go_wp2_with fail
  refine (implMetaOk_any g r _).mono ?_
  rintro e w4 ⟨rfl, hb4⟩
  have B4 := hid (btw B3.out hb4)
  clear hb4 B3
  have hbb : (mtOk g r != mtOk g r) = false := by simp
  generalize mtOk g r = z at *
  go_wp2
  go_ret
  exact ⟨rfl, B4.out⟩
theorem mt_facts (g r : Int) : (∀ i : Nat, 0 ≤ ((mtBytes g r).getD [])[i]?.getD 0 ∧ ((mtBytes g r).getD [])[i]?.getD 0 ≤ 255) ∧ ((mtBytes g r).getD []).length ≤ 4096 := by
  unfold mtBytes
  split
  · rename_i h
    obtain ⟨g0, g1, r0, r1⟩ := mtOk_facts h
    exact ⟨byte_at (mtFull_byte r0 r1), by rw [Option.getD_some, mtFull_len]; omega⟩
  · simp
end Go.Proofs.Ytpgogpphobafoaa

