/-
  Keys and ranges, the specification's side, and the law's helpers over ranges.
-/
import Derived.Test.YtnbafoennnhppabRng
namespace Go.Proofs.Ytnbafoennnhppab
open Go.RowKit

/-- A range is read whole out of its two cells. -/
theorem load_rng {w : World} {g : Nat} {lo hi : ByteArray} (c0 : w.cell? ⟨g, 0, none⟩ = some (.string lo)) (c1 : w.cell? ⟨g, 1, none⟩ = some (.string hi)) :
    (loadVar 41 ⟨g, 0, none⟩).run Try.prog w = .ok (rng lo hi) w := by
  show (loadVar 41 ⟨g, 0, none⟩).run Try.prog w = Result.ok (.agg #[.string lo, .string hi]) w
  go_simp
theorem results_rng {fn : Func} {p : Tmp} (h : fn.results = #[.cell p 41]) (tmps : Array Value) (w : World) (g : Nat) {lo hi : ByteArray} (hp : tmps.getD p undef = .pointer (some ⟨g, 0, none⟩))
    (c0 : w.cell? ⟨g, 0, none⟩ = some (.string lo)) (c1 : w.cell? ⟨g, 1, none⟩ = some (.string hi)) : (results fn tmps).run Try.prog w = .ok (rng lo hi) w := by
  have hp' : tmps[p]?.getD undef = .pointer (some ⟨g, 0, none⟩) := by simpa using hp
  simp [results, h, hp', asAddr, load_rng c0 c1]
theorem results_rng_bool {fn : Func} {p u : Tmp} (h : fn.results = #[.cell p 41, .tmp u]) (tmps : Array Value) (w : World) (g : Nat) {lo hi : ByteArray} {b : Value} (hp : tmps.getD p undef = .pointer (some ⟨g, 0, none⟩)) (hb : tmps.getD u undef = b)
    (c0 : w.cell? ⟨g, 0, none⟩ = some (.string lo)) (c1 : w.cell? ⟨g, 1, none⟩ = some (.string hi)) : (results fn tmps).run Try.prog w = .ok (.tuple #[rng lo hi, b]) w := by
  have hp' : tmps[p]?.getD undef = .pointer (some ⟨g, 0, none⟩) := by simpa using hp
  have hb' : tmps[u]?.getD undef = b := by simpa using hb
  simp [results, h, hp', hb', asAddr, load_rng c0 c1]

/-- Block g holds the range from lo to hi. -/
def Blk (w : World) (g : Nat) (lo hi : ByteArray) : Prop := w.heap[g]? = some (.cells #[.string lo, .string hi] 41 (0, 0))
theorem Blk.lt {w : World} {g : Nat} {lo hi : ByteArray} (h : Blk w g lo hi) : g < w.heap.size := by
  rcases Nat.lt_or_ge g w.heap.size with h' | h'
  · exact h'
  · rw [Blk, Array.getElem?_eq_none h'] at h; cases h
theorem Blk.kept {w w' : World} {g : Nat} {lo hi : ByteArray} (h : Blk w g lo hi) (hb : Below w.heap.size w w') : Blk w' g lo hi := (hb.block g h.lt).trans h
theorem Blk.facts {w : World} {g : Nat} {lo hi : ByteArray} (h : Blk w g lo hi) : w.cell? ⟨g, 0, none⟩ = some (.string lo) ∧ w.cell? ⟨g, 1, none⟩ = some (.string hi) ∧ w.frozen? ⟨g, 0, none⟩ = false ∧ w.frozen? ⟨g, 1, none⟩ = false := by
  unfold Blk at h
  exact ⟨by simp [World.cell?, h], by simp [World.cell?, h], by simp [World.frozen?, h], by simp [World.frozen?, h]⟩
theorem Blk.new (w : World) (lo hi : ByteArray) : Blk (w.alloc (.cells #[.string lo, .string hi] 41)) w.heap.size lo hi := heap_alloc_new _ _
theorem Blk.alloc {w : World} {g : Nat} {lo hi : ByteArray} (h : Blk w g lo hi) (o : Obj) : Blk (w.alloc o) g lo hi := (heap_alloc_old w o h.lt).trans h
/-- Three blocks: two ranges, and the one that is answered. -/
structure Trio (w v : World) (la ha lb hb : ByteArray) : Prop where
  bel : Below w.heap.size w v
  a : Blk v w.heap.size la ha
  b : Blk v (w.heap.size + 1) lb hb
  r : Blk v (w.heap.size + 1 + 1) ⟨#[]⟩ ⟨#[]⟩
theorem Trio.new (w : World) (la ha lb hb : ByteArray) : Trio w (((w.alloc (.cells #[.string la, .string ha] 41)).alloc (.cells #[.string lb, .string hb] 41)).alloc (.cells #[.string ⟨#[]⟩, .string ⟨#[]⟩] 41)) la ha lb hb :=
  ⟨below_new (below_new (below_new (Below.refl _ _))), ((Blk.new w la ha).alloc _).alloc _, by have := (Blk.new (w.alloc (.cells #[.string la, .string ha] 41)) lb hb).alloc (.cells #[.string ⟨#[]⟩, .string ⟨#[]⟩] 41); simpa using this, by have := Blk.new ((w.alloc (.cells #[.string la, .string ha] 41)).alloc (.cells #[.string lb, .string hb] 41)) ⟨#[]⟩ ⟨#[]⟩; simpa using this⟩
theorem Trio.step {w v v' : World} {la ha lb hb : ByteArray} (h : Trio w v la ha lb hb) (k : Below v.heap.size v v') : Trio w v' la ha lb hb := ⟨h.bel.trans (k.mono h.bel.size), h.a.kept k, h.b.kept k, h.r.kept k⟩

theorem toRange_any (lo hi : ByteArray) (w : World) : Calls Try.prog 27 #[rng lo hi] w fun e w' => e = .returned (rng lo hi) ∧ Below w.heap.size w w' := by
  show Calls Try.prog 27 #[.agg #[.string lo, .string hi]] w _
  go_enter Try.func27, Try.ntmps27
  go_wp2
  try simp only [Exit.inBlock, Exit.then]
  refine bodyPost_ret (v := rng lo hi) ?_ rfl ?_
  · refine results_rng rfl _ _ _ rfl ?_ ?_
    · go_simp
    · go_simp
  · exact ⟨rfl, below_new (below_new (below_new (Below.refl _ _)))⟩
theorem szRange_any (lo hi : ByteArray) (left : Int) (w : World) (h0 : 0 ≤ left) (h1 : left ≤ 1048576) (hlo : lo.size ≤ 9223372036854775807) (hhi : hi.size ≤ 9223372036854775807) :
    Calls Try.prog 25 #[rng lo hi, .int .i64 left] w fun e w' => (∃ x : Int, e = .returned (.int .i64 x) ∧ x ≤ left ∧ -1 ≤ x) ∧ Below w.heap.size w w' := by
  show Calls Try.prog 25 #[.agg #[.string lo, .string hi], .int .i64 left] w _
  go_enter Try.func25, Try.ntmps25
  go_wp2
  all_goals (go_ret; exact ⟨⟨_, rfl, by omega, by omega⟩, below_new (Below.refl _ _)⟩)
end Go.Proofs.Ytnbafoennnhppab

