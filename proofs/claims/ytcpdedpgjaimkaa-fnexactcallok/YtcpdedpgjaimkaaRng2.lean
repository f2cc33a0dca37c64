/-
  Keys and ranges, the specification's side, and the law's helpers over ranges.
-/
import Derived.Test.YtcpdedpgjaimkaaRng
namespace Go.Proofs.Ytcpdedpgjaimkaa
open Go.RowKit

/-- A range is read whole out of its two cells. -/
theorem load_rng {w : World} {g : Nat} {lo hi : ByteArray} (c0 : w.cell? ⟨g, 0, none⟩ = some (.string lo)) (c1 : w.cell? ⟨g, 1, none⟩ = some (.string hi)) :
    (loadVar 27 ⟨g, 0, none⟩).run Try.prog w = .ok (rng lo hi) w := by
  show (loadVar 27 ⟨g, 0, none⟩).run Try.prog w = Result.ok (.agg #[.string lo, .string hi]) w
  go_simp
theorem results_rng {fn : Func} {p : Tmp} (h : fn.results = #[.cell p 27]) (tmps : Array Value) (w : World) (g : Nat) {lo hi : ByteArray} (hp : tmps.getD p undef = .pointer (some ⟨g, 0, none⟩))
    (c0 : w.cell? ⟨g, 0, none⟩ = some (.string lo)) (c1 : w.cell? ⟨g, 1, none⟩ = some (.string hi)) : (results fn tmps).run Try.prog w = .ok (rng lo hi) w := by
  have hp' : tmps[p]?.getD undef = .pointer (some ⟨g, 0, none⟩) := by simpa using hp
  simp [results, h, hp', asAddr, load_rng c0 c1]
theorem results_rng_bool {fn : Func} {p u : Tmp} (h : fn.results = #[.cell p 27, .tmp u]) (tmps : Array Value) (w : World) (g : Nat) {lo hi : ByteArray} {b : Value} (hp : tmps.getD p undef = .pointer (some ⟨g, 0, none⟩)) (hb : tmps.getD u undef = b)
    (c0 : w.cell? ⟨g, 0, none⟩ = some (.string lo)) (c1 : w.cell? ⟨g, 1, none⟩ = some (.string hi)) : (results fn tmps).run Try.prog w = .ok (.tuple #[rng lo hi, b]) w := by
  have hp' : tmps[p]?.getD undef = .pointer (some ⟨g, 0, none⟩) := by simpa using hp
  have hb' : tmps[u]?.getD undef = b := by simpa using hb
  simp [results, h, hp', hb', asAddr, load_rng c0 c1]

/-- Block g holds the range from lo to hi. -/
def Blk (w : World) (g : Nat) (lo hi : ByteArray) : Prop := w.heap[g]? = some (.cells #[.string lo, .string hi] 27 (0, 0))
theorem Blk.lt {w : World} {g : Nat} {lo hi : ByteArray} (h : Blk w g lo hi) : g < w.heap.size := by
  rcases Nat.lt_or_ge g w.heap.size with h' | h'
  · exact h'
  · rw [Blk, Array.getElem?_eq_none h'] at h; cases h
theorem Blk.kept {w w' : World} {g : Nat} {lo hi : ByteArray} (h : Blk w g lo hi) (hb : Below w.heap.size w w') : Blk w' g lo hi := (hb.block g h.lt).trans h
theorem Blk.facts {w : World} {g : Nat} {lo hi : ByteArray} (h : Blk w g lo hi) : w.cell? ⟨g, 0, none⟩ = some (.string lo) ∧ w.cell? ⟨g, 1, none⟩ = some (.string hi) ∧ w.frozen? ⟨g, 0, none⟩ = false ∧ w.frozen? ⟨g, 1, none⟩ = false := by
  unfold Blk at h
  exact ⟨by simp [World.cell?, h], by simp [World.cell?, h], by simp [World.frozen?, h], by simp [World.frozen?, h]⟩
theorem Blk.new (w : World) (lo hi : ByteArray) : Blk (w.alloc (.cells #[.string lo, .string hi] 27)) w.heap.size lo hi := heap_alloc_new _ _
theorem Blk.alloc {w : World} {g : Nat} {lo hi : ByteArray} (h : Blk w g lo hi) (o : Obj) : Blk (w.alloc o) g lo hi := (heap_alloc_old w o h.lt).trans h
/-- Three blocks: two ranges, and the one that is answered. -/
structure Trio (w v : World) (la ha lb hb : ByteArray) : Prop where
  bel : Below w.heap.size w v
  a : Blk v w.heap.size la ha
  b : Blk v (w.heap.size + 1) lb hb
  r : Blk v (w.heap.size + 1 + 1) ⟨#[]⟩ ⟨#[]⟩
theorem Trio.new (w : World) (la ha lb hb : ByteArray) : Trio w (((w.alloc (.cells #[.string la, .string ha] 27)).alloc (.cells #[.string lb, .string hb] 27)).alloc (.cells #[.string ⟨#[]⟩, .string ⟨#[]⟩] 27)) la ha lb hb :=
  ⟨below_new (below_new (below_new (Below.refl _ _))), ((Blk.new w la ha).alloc _).alloc _, by have := (Blk.new (w.alloc (.cells #[.string la, .string ha] 27)) lb hb).alloc (.cells #[.string ⟨#[]⟩, .string ⟨#[]⟩] 27); simpa using this, by have := Blk.new ((w.alloc (.cells #[.string la, .string ha] 27)).alloc (.cells #[.string lb, .string hb] 27)) ⟨#[]⟩ ⟨#[]⟩; simpa using this⟩
theorem Trio.step {w v v' : World} {la ha lb hb : ByteArray} (h : Trio w v la ha lb hb) (k : Below v.heap.size v v') : Trio w v' la ha lb hb := ⟨h.bel.trans (k.mono h.bel.size), h.a.kept k, h.b.kept k, h.r.kept k⟩

theorem specRangeOk_any (lo hi : ByteArray) (w : World) : Calls Try.prog 111 #[rng lo hi] w fun e w' => e = .returned (.bool (rOk lo hi)) ∧ Below w.heap.size w w' := by
  show Calls Try.prog 111 #[.agg #[.string lo, .string hi]] w _
  by_cases h : lo.size ≤ 17
  · have h' : decide ((17 : Int) < (lo.size : Int)) = false := decide_eq_false (by omega)
    by_cases h2 : hi.size ≤ 17
    · have h2' : decide ((17 : Int) < (hi.size : Int)) = false := decide_eq_false (by omega)
      by_cases h3 : hi.toList = []
      · have HE : Hid (rOk lo hi = true) := by show rOk lo hi = true; simp [rOk, h, h2, ahd, h3]
        go_enter Try.func111, Try.ntmps111
        go_wp2
        go_ret
        exact ⟨by rw [HE.out]; rfl, below_new (Below.refl _ _)⟩
      · have HE : Hid (rOk lo hi = Op.bytesLess lo.toList hi.toList) := by show rOk lo hi = Op.bytesLess lo.toList hi.toList; simp [rOk, h, h2, ahd, h3]
        have h4 : hi.toList.isEmpty = false := by simpa using h3
        go_enter Try.func111, Try.ntmps111
        go_wp2
        go_ret
        exact ⟨by rw [HE.out]; rfl, below_new (Below.refl _ _)⟩
    · have h2' : decide ((17 : Int) < (hi.size : Int)) = true := decide_eq_true (by omega)
      have HE : Hid (rOk lo hi = false) := by show rOk lo hi = false; simp [rOk, h2]
      go_enter Try.func111, Try.ntmps111
      go_wp2
      go_ret
      exact ⟨by rw [HE.out]; rfl, below_new (Below.refl _ _)⟩
  · have h' : decide ((17 : Int) < (lo.size : Int)) = true := decide_eq_true (by omega)
    have HE : Hid (rOk lo hi = false) := by show rOk lo hi = false; simp [rOk, h]
    go_enter Try.func111, Try.ntmps111
    go_wp2
    go_ret
    exact ⟨by rw [HE.out]; rfl, below_new (Below.refl _ _)⟩
theorem specRangeHas_any (lo hi k : ByteArray) (w : World) : Calls Try.prog 44 #[rng lo hi, .string k] w fun e w' => e = .returned (.bool (rHas lo hi k)) ∧ Below w.heap.size w w' := by
  show Calls Try.prog 44 #[.agg #[.string lo, .string hi], .string k] w _
  have HD : Hid (rHas lo hi k = (rOk lo hi && kOk k && !Op.bytesLess k.toList lo.toList && ahd k hi)) := rfl
  go_enter Try.func44, Try.ntmps44
  go_wp2_with fail
  refine (specRangeOk_any lo hi _).mono ?_
  rintro e w1 ⟨rfl, hb1⟩
  obtain ⟨c0, c1, hb1⟩ := s2 hb1
  cases h1 : rOk lo hi
  · rw [h1] at HD
    go_wp2
    go_ret
    exact ⟨by rw [HD.out]; rfl, below_new hb1⟩
  · rw [h1] at HD
    go_wp2_with fail
    refine (specKeyOk_any k _).mono ?_
    rintro e w1' ⟨rfl, rfl⟩
    cases h2 : kOk k
    · rw [h2] at HD
      go_wp2
      go_ret
      exact ⟨by rw [HD.out]; rfl, below_new hb1⟩
    · rw [h2] at HD
      have HB := hid hb1
      clear hb1
      rcases tri lo k with ⟨t1, t2, t3, t4⟩ | rfl | ⟨t1, t2, t3, t4⟩
      · rw [t2] at HD
        by_cases h3 : hi.toList = []
        · have HE : Hid (ahd k hi = true) := by show ahd k hi = true; simp [ahd, h3]
          go_wp2
          go_ret
          exact ⟨by rw [HD.out, HE.out]; rfl, below_new HB.out⟩
        · have HE : Hid (ahd k hi = Op.bytesLess k.toList hi.toList) := by show ahd k hi = Op.bytesLess k.toList hi.toList; simp [ahd, h3]
          have h4 : hi.toList.isEmpty = false := by simpa using h3
          go_wp2
          go_ret
          exact ⟨by rw [HD.out, HE.out]; rfl, below_new HB.out⟩
      · have t1 := less_irrefl lo.toList
        rw [t1] at HD
        by_cases h3 : hi.toList = []
        · have HE : Hid (ahd lo hi = true) := by show ahd lo hi = true; simp [ahd, h3]
          go_wp2
          go_ret
          exact ⟨by rw [HD.out, HE.out]; rfl, below_new HB.out⟩
        · have HE : Hid (ahd lo hi = Op.bytesLess lo.toList hi.toList) := by show ahd lo hi = Op.bytesLess lo.toList hi.toList; simp [ahd, h3]
          have h4 : hi.toList.isEmpty = false := by simpa using h3
          go_wp2
          go_ret
          exact ⟨by rw [HD.out, HE.out]; rfl, below_new HB.out⟩
      · rw [t2] at HD
        go_wp2
        go_ret
        exact ⟨by rw [HD.out]; rfl, below_new HB.out⟩
theorem toRange_any (lo hi : ByteArray) (w : World) : Calls Try.prog 132 #[rng lo hi] w fun e w' => e = .returned (rng lo hi) ∧ Below w.heap.size w w' := by
  show Calls Try.prog 132 #[.agg #[.string lo, .string hi]] w _
  go_enter Try.func132, Try.ntmps132
  go_wp2
  try simp only [Exit.inBlock, Exit.then]
  refine bodyPost_ret (v := rng lo hi) ?_ rfl ?_
  · refine results_rng rfl _ _ _ rfl ?_ ?_
    · go_simp
    · go_simp
  · exact ⟨rfl, below_new (below_new (below_new (Below.refl _ _)))⟩
theorem szRange_any (lo hi : ByteArray) (left : Int) (w : World) (h0 : 0 ≤ left) (h1 : left ≤ 1048576) (hlo : lo.size ≤ 9223372036854775807) (hhi : hi.size ≤ 9223372036854775807) :
    Calls Try.prog 128 #[rng lo hi, .int .i64 left] w fun e w' => (∃ x : Int, e = .returned (.int .i64 x) ∧ x ≤ left ∧ -1 ≤ x) ∧ Below w.heap.size w w' := by
  show Calls Try.prog 128 #[.agg #[.string lo, .string hi], .int .i64 left] w _
  go_enter Try.func128, Try.ntmps128
  go_wp2
  all_goals (go_ret; exact ⟨⟨_, rfl, by omega, by omega⟩, below_new (Below.refl _ _)⟩)
end Go.Proofs.Ytcpdedpgjaimkaa

