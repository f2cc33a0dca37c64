/-
  The ranges that the laws draw, right or not: some ranges.
-/
import Derived.Test.YtbfgjadonilonaaDrawR
namespace Go.Proofs.Ytbfgjadonilonaa
open Go.RowKit
theorem rd_made (w : World) (k : Nat) (hk : k ≤ 8192) : Rd (w.alloc (.cells (madeCells #[.int .u8 0] k) 5)) (some ⟨w.heap.size, 0, none⟩) k k (List.replicate k 0) := by
  refine ⟨by simp, Nat.le_refl _, by omega, by omega, fun i => ?_, fun _ => ⟨w.heap.size, 0, rfl, by simp, fun i hi => ?_⟩⟩
  · by_cases h : i < k
    · simp [h]
    · rw [List.getElem?_eq_none (by simp; omega)]; simp
  · rw [World.cell?_alloc_at (hn := rfl)]
    have h1 : i < (madeCells #[.int .u8 0] k).size := by simp [madeCells]; omega
    rw [show (0 : Nat) + i = i from Nat.zero_add i, Array.getElem?_eq_getElem h1]
    simp [madeCells, Nat.mod_one, hi]
theorem made_any (m : Int) (k : Nat) (hk : m = k) (h : k ≤ 8192) : ∀ w, (Instr.makeSlice 43 (.int .i64 m) (.int .i64 m)).run Try.prog w = .ok (.slice (some ⟨w.heap.size, 0, none⟩) k k) (w.alloc (.cells (madeCells #[.int .u8 0] k) 5)) := by
  intro w
  subst hk
  exact run_make_row' (P := Try.prog) 43 5 (.int .u8 0) 1 Try.underlying43 infoU8 rfl .i64 .i64 k (by omega) (by omega) w
theorem Dw.other {w v : World} {g b b' o : Nat} {lo hi : ByteArray} {x : Value} (h : Dw w v g b lo hi) (hne : b ≠ b') (hb : w.heap.size ≤ b') : Dw w (v.setCell ⟨b', o, none⟩ x) g b lo hi :=
  ⟨grown_new h.gr _ _ _ hb, h.cu.set _ _ _ (by have := h.ng; omega), h.bk.other hne, h.nb, h.ng⟩
theorem Dw.alloc {w v : World} {g b : Nat} {lo hi : ByteArray} (h : Dw w v g b lo hi) (o : Obj) : Dw w (v.alloc o) g b lo hi := h.call (below_alloc _ _)
theorem Dw.next {w v : World} {g b : Nat} {lo hi : ByteArray} (h : Dw w v g b lo hi) (lo' hi' : ByteArray) : Dw w (v.alloc (.cells #[.string lo', .string hi'] 30)) g v.heap.size lo' hi' :=
  ⟨grownBy_trans h.gr (grownBy_alloc _ _ _), h.cu.alloc _, Blk.new _ _ _, h.gr.size, h.ng⟩
set_option maxHeartbeats 4000000 in
theorem anyRange_any (g : Nat) (w : World) (h : Cu w g) : Calls Try.prog 44 #[.pointer (some ⟨g, 0, none⟩)] w fun e w' => (∃ lo hi : ByteArray, e = .returned (.agg #[.string lo, .string hi])) ∧ w.grownBy w' (some g) ∧ Cu w' g := by
  have D0 := hid (Dw.new h ⟨#[]⟩ ⟨#[]⟩)
  clear h
  go_enter Try.func44, Try.ntmps44
  go_wp2_with fail
  refine (range_any g _ D0.out.cu).mono ?_
  rintro e w1 ⟨⟨a, b, rfl⟩, hg1, hc1⟩
  have D1 := hid (D0.out.step hg1 hc1)
  clear hg1 hc1 D0
  have hlt := D1.out.bk.lt
  have hne : ¬ w.heap.size = w1.heap.size := by omega
  have hne' : ¬ w1.heap.size = w.heap.size := by omega
  have HN := hid (D1.out.gr.size)
  go_wp2_with fail
  refine (below_any g 14 _ (D1.out.alloc _).cu (by omega) (by omega)).mono ?_
  rintro e w2 ⟨⟨x, rfl, hx0, hx1⟩, hg1, hc1⟩
  have D2 := hid ((D1.out.alloc _).step hg1 hc1)
  have E2 := hid ((D1.out.next a b).step hg1 hc1)
  clear hg1 hc1 D1
  generalize w1.heap.size = b2 at *
  obtain ⟨r0, r1, r2, r3⟩ := D2.out.bk.facts
  obtain ⟨q0, q1, q2, q3⟩ := E2.out.bk.facts
  rcases (by omega : x = 0 ∨ x = 1 ∨ x = 2 ∨ x = 3 ∨ 4 ≤ x) with rfl | rfl | rfl | rfl | hx
  · clear hx0 hx1
    go_wp2
    try simp only [Exit.inBlock, Exit.then]
    refine bodyPost_ret (v := rng a a) ?_ rfl ?_
    · exact results_rng rfl _ _ _ rfl (by go_simp) (by go_simp)
    · exact ⟨⟨_, _, rfl⟩, ((D2.out.other hne HN.out).set0.set1).gr, ((D2.out.other hne HN.out).set0.set1).cu⟩
  · clear hx0 hx1
    go_wp2_with fail
    refine (below_any g 2 _ D2.out.cu (by omega) (by omega)).mono ?_
    rintro e w3 ⟨⟨y, rfl, hy0, hy1⟩, hg1, hc1⟩
    have D3 := hid (D2.out.step hg1 hc1)
    have E3 := hid (E2.out.step hg1 hc1)
    clear hg1 hc1 D2 E2 r0 r1 r2 r3 q0 q1 q2 q3
    obtain ⟨r0, r1, r2, r3⟩ := (D3.out.alloc (.cells (madeCells #[.int .u8 0] (17 + y.toNat)) 5)).bk.facts
    obtain ⟨q0, q1, q2, q3⟩ := (E3.out.alloc (.cells (madeCells #[.int .u8 0] (17 + y.toNat)) 5)).bk.facts
    obtain ⟨k, rfl⟩ := Int.eq_ofNat_of_zero_le hy0
    have hmk := made_any (17 + (k : Int)) (17 + k) (by omega) (by omega)
    have hst6 := run_str (rd_made w3 (17 + k) (by omega))
    generalize strOf (List.replicate (17 + k) 0) = s6 at hst6
    simp only [Int.toNat_natCast] at r0 r1 r2 r3 q0 q1 q2 q3
    go_wp2_with fail
    try simp only [Exit.inBlock, Exit.then]
    refine bodyPost_ret (v := rng s6 b) ?_ rfl ?_
    · exact results_rng rfl _ _ _ rfl (by go_simp) (by go_simp)
    · exact ⟨⟨_, _, rfl⟩, (((D3.out.alloc _).other hne HN.out).set0.set1).gr, (((D3.out.alloc _).other hne HN.out).set0.set1).cu⟩
  · clear hx0 hx1
    go_wp2_with fail
    refine (below_any g 2 _ (D2.out.alloc _).cu (by omega) (by omega)).mono ?_
    rintro e w3 ⟨⟨y, rfl, hy0, hy1⟩, hg1, hc1⟩
    have D3 := hid ((D2.out.alloc _).step hg1 hc1)
    have E3 := hid ((E2.out.alloc _).step hg1 hc1)
    have hcl := fun k => row_kept (b := w2.heap.size) (k := k) hg1 (by simp) (by have := D2.out.cu.lt; omega)
    clear hg1 hc1 D2 E2 r0 r1 r2 r3 q0 q1 q2 q3
    obtain ⟨r0, r1, r2, r3⟩ := D3.out.bk.facts
    obtain ⟨q0, q1, q2, q3⟩ := E3.out.bk.facts
    rcases (by omega : y = 0 ∨ y = 1) with rfl | rfl
    · have hc := (hcl 0).trans (by rw [World.cell?_alloc_at (hn := rfl)])
      clear hcl
      go_wp2
      try simp only [Exit.inBlock, Exit.then]
      refine bodyPost_ret (v := rng a (⟨#[122, 122, 122, 122, 122, 122, 122, 122, 122, 122, 122, 122, 122, 122, 122, 122, 122]⟩ ++ ⟨#[]⟩)) ?_ rfl ?_
      · exact results_rng rfl _ _ _ rfl (by go_simp) (by go_simp)
      · exact ⟨⟨_, _, rfl⟩, ((D3.out.other hne HN.out).set0.set1).gr, ((D3.out.other hne HN.out).set0.set1).cu⟩
    · have hc := (hcl 1).trans (by rw [World.cell?_alloc_at (hn := rfl)])
      clear hcl
      go_wp2
      try simp only [Exit.inBlock, Exit.then]
      refine bodyPost_ret (v := rng a (⟨#[122, 122, 122, 122, 122, 122, 122, 122, 122, 122, 122, 122, 122, 122, 122, 122, 122]⟩ ++ ⟨#[122]⟩)) ?_ rfl ?_
      · exact results_rng rfl _ _ _ rfl (by go_simp) (by go_simp)
      · exact ⟨⟨_, _, rfl⟩, ((D3.out.other hne HN.out).set0.set1).gr, ((D3.out.other hne HN.out).set0.set1).cu⟩
  · clear hx0 hx1
    go_wp2
    try simp only [Exit.inBlock, Exit.then]
    refine bodyPost_ret (v := rng b a) ?_ rfl ?_
    · exact results_rng rfl _ _ _ rfl (by go_simp) (by go_simp)
    · exact ⟨⟨_, _, rfl⟩, (((D2.out.other hne HN.out).other hne HN.out).set0.set1).gr, (((D2.out.other hne HN.out).other hne HN.out).set0.set1).cu⟩
  · have hx2 : (x == 2) = false := by simp; omega
    have hx3 : (x == 1) = false := by simp; omega
    have hx4 : (x == 0) = false := by simp; omega
    have hx5 : (x == 3) = false := by simp; omega
    go_wp2
    try simp only [Exit.inBlock, Exit.then]
    refine bodyPost_ret (v := rng a b) ?_ rfl ?_
    · exact results_rng rfl _ _ _ rfl (by go_simp) (by go_simp)
    · exact ⟨⟨_, _, rfl⟩, (D2.out.set0.set1).gr, (D2.out.set0.set1).cu⟩
theorem results_rng2 {fn : Func} {p u : Tmp} (h : fn.results = #[.cell p 30, .cell u 30]) (tmps : Array Value) (w : World) (g g' : Nat) {lo hi lo' hi' : ByteArray} (hp : tmps.getD p undef = .pointer (some ⟨g, 0, none⟩)) (hq : tmps.getD u undef = .pointer (some ⟨g', 0, none⟩))
    (c0 : w.cell? ⟨g, 0, none⟩ = some (.string lo)) (c1 : w.cell? ⟨g, 1, none⟩ = some (.string hi)) (d0 : w.cell? ⟨g', 0, none⟩ = some (.string lo')) (d1 : w.cell? ⟨g', 1, none⟩ = some (.string hi')) : (results fn tmps).run Try.prog w = .ok (.tuple #[rng lo hi, rng lo' hi']) w := by
  have hp' : tmps[p]?.getD undef = .pointer (some ⟨g, 0, none⟩) := by simpa using hp
  have hq' : tmps[u]?.getD undef = .pointer (some ⟨g', 0, none⟩) := by simpa using hq
  simp [results, h, hp', hq', asAddr, load_rng c0 c1, load_rng d0 d1]
/-- A draw from the code: its cursor g, and block b for a result, that holds nothing yet. -/
structure R1 (w v : World) (g b : Nat) : Prop where
  bel : Below w.heap.size w v
  cu : Cu v g
  bk : Blk v b ⟨#[]⟩ ⟨#[]⟩
  nb : w.heap.size ≤ b
  ng : b < g
theorem R1.step {w v v' : World} {g b : Nat} (h : R1 w v g b) (hg : v.grownBy v' (some g)) (hc : Cu v' g) : R1 w v' g b :=
  ⟨h.bel.trans ((below_of_grown hg h.cu.lt).mono (by have := h.nb; have := h.ng; omega)), hc, ((below_of_grown hg h.cu.lt).block b h.ng).trans h.bk, h.nb, h.ng⟩
theorem R1.new {w u v : World} {b : Nat} (hu : Below w.heap.size w u) (hk : Blk u b ⟨#[]⟩ ⟨#[]⟩) (hb : w.heap.size ≤ b) (h : Below u.heap.size u v) (hc : Cu v u.heap.size) : R1 w v u.heap.size b :=
  ⟨thn2 hu h, hc, hk.kept h, hb, hk.lt⟩
theorem R1.alloc {w v : World} {g b : Nat} (h : R1 w v g b) (o : Obj) : R1 w (v.alloc o) g b := h.step (grownBy_alloc _ _ _) (h.cu.alloc _)
end Go.Proofs.Ytbfgjadonilonaa
