/-
  The ranges that the laws draw: some ranges.
-/
import Derived.Test.YtbaggkfgnjenoacDoorMg3
import Derived.Test.YtbaggkfgnjenoacDoorMg1
import Derived.Laws.Cover1
import Derived.Deep.DeepCutAuto
import Derived.Test.YtbaggkfgnjenoacDoorMg4
import Derived.Deep.RegionHeld3
import Derived.Test.YtbaggkfgnjenoacDoorMg2
namespace Go.Proofs.YtbaggkfgnjenoacDoor
open Go.RowKit
theorem Blk.grown {v v' : World} {g b : Nat} {lo hi : ByteArray} (h : Blk v b lo hi) (hg : v.grownBy v' (some g)) (hne : g < b) : Blk v' b lo hi := (hg.block b h.lt (fun e => by cases e; omega)).trans h
theorem grown_new {w v : World} {row : Option Nat} (h : w.grownBy v row) (b o : Nat) (x : Value) (hb : w.heap.size ≤ b) : w.grownBy (v.setCell ⟨b, o, none⟩ x) row :=
  ⟨h.os, h.tape, h.output, by simp [World.setCell]; exact h.size, fun k hk hne => by rw [Below.heap_setCell _ _ _ _ (fun e => by simp at e; omega)]; exact h.block k hk hne⟩
theorem Cu.set {v : World} {g : Nat} (h : Cu v g) (b o : Nat) (x : Value) (hb : g < b) : Cu (v.setCell ⟨b, o, none⟩ x) g :=
  h.kept (grownBy_set (grownBy_same v (some b)) o x) (fun k e => by cases e; exact hb)
theorem grown_below {w v v' : World} {row : Option Nat} (h : w.grownBy v row) (hb : Below v.heap.size v v') : w.grownBy v' row := grownBy_trans h (grown_of_below hb row)
/-- A draw so far: its cursor g, and a new block b that holds a range. -/
structure Dw (w v : World) (g b : Nat) (lo hi : ByteArray) : Prop where
  gr : w.grownBy v (some g)
  cu : Cu v g
  bk : Blk v b lo hi
  nb : w.heap.size ≤ b
  ng : g < w.heap.size
theorem Dw.new {w : World} {g : Nat} (h : Cu w g) (lo hi : ByteArray) : Dw w (w.alloc (.cells #[.string lo, .string hi] 26)) g w.heap.size lo hi :=
  ⟨grownBy_alloc _ _ _, h.alloc _, Blk.new _ _ _, Nat.le_refl _, h.lt⟩
theorem Dw.step {w v v' : World} {g b : Nat} {lo hi : ByteArray} (h : Dw w v g b lo hi) (hg : v.grownBy v' (some g)) (hc : Cu v' g) : Dw w v' g b lo hi :=
  ⟨grownBy_trans h.gr hg, hc, h.bk.grown hg (by have := h.nb; have := h.ng; omega), h.nb, h.ng⟩
theorem Dw.call {w v v' : World} {g b : Nat} {lo hi : ByteArray} (h : Dw w v g b lo hi) (hb : Below v.heap.size v v') : Dw w v' g b lo hi := h.step (grown_of_below hb _) (h.cu.below hb)
theorem Dw.set0 {w v : World} {g b : Nat} {lo hi x : ByteArray} (h : Dw w v g b lo hi) : Dw w (v.setCell ⟨b, 0, none⟩ (.string x)) g b x hi :=
  ⟨grown_new h.gr _ _ _ h.nb, h.cu.set _ _ _ (by have := h.nb; have := h.ng; omega), h.bk.set0, h.nb, h.ng⟩
theorem Dw.set1 {w v : World} {g b : Nat} {lo hi x : ByteArray} (h : Dw w v g b lo hi) : Dw w (v.setCell ⟨b, 1, none⟩ (.string x)) g b lo x :=
  ⟨grown_new h.gr _ _ _ h.nb, h.cu.set _ _ _ (by have := h.nb; have := h.ng; omega), h.bk.set1, h.nb, h.ng⟩
set_option maxHeartbeats 4000000 in
theorem range_any (g : Nat) (w : World) (h : Cu w g) : Calls Tryd.prog 65 #[.pointer (some ⟨g, 0, none⟩)] w fun e w' => (∃ lo hi : ByteArray, e = .returned (.agg #[.string lo, .string hi])) ∧ w.grownBy w' (some g) ∧ Cu w' g := by
  have D0 := hid (Dw.new h ⟨#[]⟩ ⟨#[]⟩)
  clear h
  go_enter Tryd.func65, Tryd.ntmps65
  go_wp2_with fail
  refine (key_any g _ D0.out.cu).mono ?_
  rintro e w1 ⟨⟨a, rfl, ha⟩, hg1, hc1⟩
  have D1 := hid (D0.out.step hg1 hc1)
  clear hg1 hc1 D0
  go_wp2_with fail
  refine (key_any g _ D1.out.cu).mono ?_
  rintro e w2 ⟨⟨b, rfl, hb⟩, hg1, hc1⟩
  have D2 := hid (D1.out.step hg1 hc1)
  clear hg1 hc1 D1
  go_wp2_with fail
  refine (below_any g 6 _ D2.out.cu (by omega) (by omega)).mono ?_
  rintro e w3 ⟨⟨x, rfl, hx0, hx1⟩, hg1, hc1⟩
  have D3 := hid (D2.out.step hg1 hc1)
  clear hg1 hc1 D2
  obtain ⟨r0, r1, r2, r3⟩ := D3.out.bk.facts
  rcases (by omega : x = 0 ∨ x = 1 ∨ x = 2 ∨ 3 ≤ x) with rfl | rfl | rfl | hx
  · clear hx0 hx1
    go_wp2
    try simp only [Exit.inBlock, Exit.then]
    refine bodyPost_ret (v := rng ⟨#[]⟩ ⟨#[]⟩) ?_ rfl ?_
    · exact results_rng rfl _ _ _ rfl (by go_simp) (by go_simp)
    · exact ⟨⟨_, _, rfl⟩, D3.out.set0.set1.gr, D3.out.set0.set1.cu⟩
  · clear hx0 hx1
    go_wp2
    try simp only [Exit.inBlock, Exit.then]
    refine bodyPost_ret (v := rng a ⟨#[]⟩) ?_ rfl ?_
    · exact results_rng rfl _ _ _ rfl (by go_simp) (by go_simp)
    · exact ⟨⟨_, _, rfl⟩, D3.out.set0.set1.gr, D3.out.set0.set1.cu⟩
  · clear hx0 hx1
    go_wp2_with fail
    refine (specPointOf_any a _).mono ?_
    rintro e w4 ⟨rfl, hb4⟩
    have D4 := hid (D3.out.call hb4)
    clear hb4 D3 r0 r1 r2 r3
    obtain ⟨r0, r1, r2, r3⟩ := D4.out.bk.facts
    simp only [rng]
    go_wp2
    try simp only [Exit.inBlock, Exit.then]
    refine bodyPost_ret (v := rng (ptLo a) (ptHi a)) ?_ rfl ?_
    · exact results_rng rfl _ _ _ rfl (by go_simp) (by go_simp)
    · exact ⟨⟨_, _, rfl⟩, D4.out.set0.set1.gr, D4.out.set0.set1.cu⟩
  · have hx2 : (x == 2) = false := by simp; omega
    have hx3 : (x == 1) = false := by simp; omega
    have hx4 : (x == 0) = false := by simp; omega
    rcases tri a b with ⟨t1, t2, t3, t4⟩ | rfl | ⟨t1, t2, t3, t4⟩
    · go_wp2
      try simp only [Exit.inBlock, Exit.then]
      refine bodyPost_ret (v := rng a b) ?_ rfl ?_
      · exact results_rng rfl _ _ _ rfl (by go_simp) (by go_simp)
      · exact ⟨⟨_, _, rfl⟩, D3.out.set0.set1.gr, D3.out.set0.set1.cu⟩
    · go_wp2_with fail
      refine (specPointOf_any a _).mono ?_
      rintro e w4 ⟨rfl, hb4⟩
      have D4 := hid (D3.out.call hb4)
      clear hb4 D3 r0 r1 r2 r3
      obtain ⟨r0, r1, r2, r3⟩ := D4.out.bk.facts
      simp only [rng]
      go_wp2
      try simp only [Exit.inBlock, Exit.then]
      refine bodyPost_ret (v := rng (ptLo a) (ptHi a)) ?_ rfl ?_
      · exact results_rng rfl _ _ _ rfl (by go_simp) (by go_simp)
      · exact ⟨⟨_, _, rfl⟩, D4.out.set0.set1.gr, D4.out.set0.set1.cu⟩
    · go_wp2
      try simp only [Exit.inBlock, Exit.then]
      refine bodyPost_ret (v := rng b a) ?_ rfl ?_
      · exact results_rng rfl _ _ _ rfl (by go_simp) (by go_simp)
      · exact ⟨⟨_, _, rfl⟩, D3.out.set0.set1.gr, D3.out.set0.set1.cu⟩
end Go.Proofs.YtbaggkfgnjenoacDoor
/-
  The ranges that the laws draw, right or not: some ranges.
-/
namespace Go.Proofs.YtbaggkfgnjenoacDoor
open Go.RowKit
theorem rd_made (w : World) (k : Nat) (hk : k ≤ 8192) : Rd (w.alloc (.cells (madeCells #[.int .u8 0] k) 5)) (some ⟨w.heap.size, 0, none⟩) k k (List.replicate k 0) := by
  refine ⟨by simp, Nat.le_refl _, by omega, by omega, fun i => ?_, fun _ => ⟨w.heap.size, 0, rfl, by simp, fun i hi => ?_⟩⟩
  · by_cases h : i < k
    · simp [h]
    · rw [List.getElem?_eq_none (by simp; omega)]; simp
  · rw [World.cell?_alloc_at (hn := rfl)]
    have h1 : i < (madeCells #[.int .u8 0] k).size := by simp [madeCells]; omega
    rw [show (0 : Nat) + i = i from Nat.zero_add i, Array.getElem?_eq_getElem h1]
    simp [madeCells, Nat.mod_one, hi]
theorem made_any (m : Int) (k : Nat) (hk : m = k) (h : k ≤ 8192) : ∀ w, (Instr.makeSlice 22 (.int .i64 m) (.int .i64 m)).run Tryd.prog w = .ok (.slice (some ⟨w.heap.size, 0, none⟩) k k) (w.alloc (.cells (madeCells #[.int .u8 0] k) 5)) := by
  intro w
  subst hk
  exact run_make_row' (P := Tryd.prog) 22 5 (.int .u8 0) 1 Tryd.underlying22 infoU8 rfl .i64 .i64 k (by omega) (by omega) w
theorem Dw.other {w v : World} {g b b' o : Nat} {lo hi : ByteArray} {x : Value} (h : Dw w v g b lo hi) (hne : b ≠ b') (hb : w.heap.size ≤ b') : Dw w (v.setCell ⟨b', o, none⟩ x) g b lo hi :=
  ⟨grown_new h.gr _ _ _ hb, h.cu.set _ _ _ (by have := h.ng; omega), h.bk.other hne, h.nb, h.ng⟩
theorem Dw.alloc {w v : World} {g b : Nat} {lo hi : ByteArray} (h : Dw w v g b lo hi) (o : Obj) : Dw w (v.alloc o) g b lo hi := h.call (below_alloc _ _)
theorem Dw.next {w v : World} {g b : Nat} {lo hi : ByteArray} (h : Dw w v g b lo hi) (lo' hi' : ByteArray) : Dw w (v.alloc (.cells #[.string lo', .string hi'] 26)) g v.heap.size lo' hi' :=
  ⟨grownBy_trans h.gr (grownBy_alloc _ _ _), h.cu.alloc _, Blk.new _ _ _, h.gr.size, h.ng⟩
set_option maxHeartbeats 4000000 in
theorem anyRange_any (g : Nat) (w : World) (h : Cu w g) : Calls Tryd.prog 53 #[.pointer (some ⟨g, 0, none⟩)] w fun e w' => (∃ lo hi : ByteArray, e = .returned (.agg #[.string lo, .string hi])) ∧ w.grownBy w' (some g) ∧ Cu w' g := by
  have D0 := hid (Dw.new h ⟨#[]⟩ ⟨#[]⟩)
  clear h
  go_enter Tryd.func53, Tryd.ntmps53
  go_wp2_with fail
  refine (range_any g _ D0.out.cu).mono ?_
  rintro e w1 ⟨⟨a, b, rfl⟩, hg1, hc1⟩
  have D1 := hid (D0.out.step hg1 hc1)
  clear hg1 hc1 D0
  have hlt := D1.out.bk.lt
  have hne : ¬ w.heap.size = w1.heap.size := by omega
  have hne' : ¬ w1.heap.size = w.heap.size := by omega
  have HN := hid (D1.out.gr.size)
  go_wp2_with fail
  refine (below_any g 14 _ (D1.out.alloc _).cu (by omega) (by omega)).mono ?_
  rintro e w2 ⟨⟨x, rfl, hx0, hx1⟩, hg1, hc1⟩
  have D2 := hid ((D1.out.alloc _).step hg1 hc1)
  have E2 := hid ((D1.out.next a b).step hg1 hc1)
  clear hg1 hc1 D1
  generalize w1.heap.size = b2 at *
  obtain ⟨r0, r1, r2, r3⟩ := D2.out.bk.facts
  obtain ⟨q0, q1, q2, q3⟩ := E2.out.bk.facts
  rcases (by omega : x = 0 ∨ x = 1 ∨ x = 2 ∨ x = 3 ∨ 4 ≤ x) with rfl | rfl | rfl | rfl | hx
  · clear hx0 hx1
    go_wp2
    try simp only [Exit.inBlock, Exit.then]
    refine bodyPost_ret (v := rng a a) ?_ rfl ?_
    · exact results_rng rfl _ _ _ rfl (by go_simp) (by go_simp)
    · exact ⟨⟨_, _, rfl⟩, ((D2.out.other hne HN.out).set0.set1).gr, ((D2.out.other hne HN.out).set0.set1).cu⟩
  · clear hx0 hx1
    go_wp2_with fail
    refine (below_any g 2 _ D2.out.cu (by omega) (by omega)).mono ?_
    rintro e w3 ⟨⟨y, rfl, hy0, hy1⟩, hg1, hc1⟩
    have D3 := hid (D2.out.step hg1 hc1)
    have E3 := hid (E2.out.step hg1 hc1)
    clear hg1 hc1 D2 E2 r0 r1 r2 r3 q0 q1 q2 q3
    obtain ⟨r0, r1, r2, r3⟩ := (D3.out.alloc (.cells (madeCells #[.int .u8 0] (17 + y.toNat)) 5)).bk.facts
    obtain ⟨q0, q1, q2, q3⟩ := (E3.out.alloc (.cells (madeCells #[.int .u8 0] (17 + y.toNat)) 5)).bk.facts
    obtain ⟨k, rfl⟩ := Int.eq_ofNat_of_zero_le hy0
    have hmk := made_any (17 + (k : Int)) (17 + k) (by omega) (by omega)
    have hst6 := run_str (rd_made w3 (17 + k) (by omega))
    generalize strOf (List.replicate (17 + k) 0) = s6 at hst6
    simp only [Int.toNat_natCast] at r0 r1 r2 r3 q0 q1 q2 q3
    go_wp2_with fail
    try simp only [Exit.inBlock, Exit.then]
    refine bodyPost_ret (v := rng s6 b) ?_ rfl ?_
    · exact results_rng rfl _ _ _ rfl (by go_simp) (by go_simp)
    · exact ⟨⟨_, _, rfl⟩, (((D3.out.alloc _).other hne HN.out).set0.set1).gr, (((D3.out.alloc _).other hne HN.out).set0.set1).cu⟩
  · clear hx0 hx1
    go_wp2_with fail
    refine (below_any g 2 _ (D2.out.alloc _).cu (by omega) (by omega)).mono ?_
    rintro e w3 ⟨⟨y, rfl, hy0, hy1⟩, hg1, hc1⟩
    have D3 := hid ((D2.out.alloc _).step hg1 hc1)
    have E3 := hid ((E2.out.alloc _).step hg1 hc1)
    have hcl := fun k => row_kept (b := w2.heap.size) (k := k) hg1 (by simp) (by have := D2.out.cu.lt; omega)
    clear hg1 hc1 D2 E2 r0 r1 r2 r3 q0 q1 q2 q3
    obtain ⟨r0, r1, r2, r3⟩ := D3.out.bk.facts
    obtain ⟨q0, q1, q2, q3⟩ := E3.out.bk.facts
    rcases (by omega : y = 0 ∨ y = 1) with rfl | rfl
    · have hc := (hcl 0).trans (by rw [World.cell?_alloc_at (hn := rfl)])
      clear hcl
      go_wp2
      try simp only [Exit.inBlock, Exit.then]
      refine bodyPost_ret (v := rng a (⟨#[122, 122, 122, 122, 122, 122, 122, 122, 122, 122, 122, 122, 122, 122, 122, 122, 122]⟩ ++ ⟨#[]⟩)) ?_ rfl ?_
      · exact results_rng rfl _ _ _ rfl (by go_simp) (by go_simp)
      · exact ⟨⟨_, _, rfl⟩, ((D3.out.other hne HN.out).set0.set1).gr, ((D3.out.other hne HN.out).set0.set1).cu⟩
    · have hc := (hcl 1).trans (by rw [World.cell?_alloc_at (hn := rfl)])
      clear hcl
      go_wp2
      try simp only [Exit.inBlock, Exit.then]
      refine bodyPost_ret (v := rng a (⟨#[122, 122, 122, 122, 122, 122, 122, 122, 122, 122, 122, 122, 122, 122, 122, 122, 122]⟩ ++ ⟨#[122]⟩)) ?_ rfl ?_
      · exact results_rng rfl _ _ _ rfl (by go_simp) (by go_simp)
      · exact ⟨⟨_, _, rfl⟩, ((D3.out.other hne HN.out).set0.set1).gr, ((D3.out.other hne HN.out).set0.set1).cu⟩
  · clear hx0 hx1
    go_wp2
    try simp only [Exit.inBlock, Exit.then]
    refine bodyPost_ret (v := rng b a) ?_ rfl ?_
    · exact results_rng rfl _ _ _ rfl (by go_simp) (by go_simp)
    · exact ⟨⟨_, _, rfl⟩, (((D2.out.other hne HN.out).other hne HN.out).set0.set1).gr, (((D2.out.other hne HN.out).other hne HN.out).set0.set1).cu⟩
  · have hx2 : (x == 2) = false := by simp; omega
    have hx3 : (x == 1) = false := by simp; omega
    have hx4 : (x == 0) = false := by simp; omega
    have hx5 : (x == 3) = false := by simp; omega
    go_wp2
    try simp only [Exit.inBlock, Exit.then]
    refine bodyPost_ret (v := rng a b) ?_ rfl ?_
    · exact results_rng rfl _ _ _ rfl (by go_simp) (by go_simp)
    · exact ⟨⟨_, _, rfl⟩, (D2.out.set0.set1).gr, (D2.out.set0.set1).cu⟩
theorem results_rng2 {fn : Func} {p u : Tmp} (h : fn.results = #[.cell p 26, .cell u 26]) (tmps : Array Value) (w : World) (g g' : Nat) {lo hi lo' hi' : ByteArray} (hp : tmps.getD p undef = .pointer (some ⟨g, 0, none⟩)) (hq : tmps.getD u undef = .pointer (some ⟨g', 0, none⟩))
    (c0 : w.cell? ⟨g, 0, none⟩ = some (.string lo)) (c1 : w.cell? ⟨g, 1, none⟩ = some (.string hi)) (d0 : w.cell? ⟨g', 0, none⟩ = some (.string lo')) (d1 : w.cell? ⟨g', 1, none⟩ = some (.string hi')) : (results fn tmps).run Tryd.prog w = .ok (.tuple #[rng lo hi, rng lo' hi']) w := by
  have hp' : tmps[p]?.getD undef = .pointer (some ⟨g, 0, none⟩) := by simpa using hp
  have hq' : tmps[u]?.getD undef = .pointer (some ⟨g', 0, none⟩) := by simpa using hq
  simp [results, h, hp', hq', asAddr, load_rng c0 c1, load_rng d0 d1]
/-- A draw from the code: its cursor g, and block b for a result, that holds nothing yet. -/
structure R1 (w v : World) (g b : Nat) : Prop where
  bel : Below w.heap.size w v
  cu : Cu v g
  bk : Blk v b ⟨#[]⟩ ⟨#[]⟩
  nb : w.heap.size ≤ b
  ng : b < g
theorem R1.step {w v v' : World} {g b : Nat} (h : R1 w v g b) (hg : v.grownBy v' (some g)) (hc : Cu v' g) : R1 w v' g b :=
  ⟨h.bel.trans ((below_of_grown hg h.cu.lt).mono (by have := h.nb; have := h.ng; omega)), hc, ((below_of_grown hg h.cu.lt).block b h.ng).trans h.bk, h.nb, h.ng⟩
theorem R1.new {w u v : World} {b : Nat} (hu : Below w.heap.size w u) (hk : Blk u b ⟨#[]⟩ ⟨#[]⟩) (hb : w.heap.size ≤ b) (h : Below u.heap.size u v) (hc : Cu v u.heap.size) : R1 w v u.heap.size b :=
  ⟨thn2 hu h, hc, hk.kept h, hb, hk.lt⟩
theorem R1.alloc {w v : World} {g b : Nat} (h : R1 w v g b) (o : Obj) : R1 w (v.alloc o) g b := h.step (grownBy_alloc _ _ _) (h.cu.alloc _)
end Go.Proofs.YtbaggkfgnjenoacDoor
/-
  The records that the laws draw: some record.
-/
namespace Go.Proofs.YtbaggkfgnjenoacDoor
open Go.RowKit
set_option linter.unusedVariables false
/-- A draw so far: its cursor g. -/
structure DG (w v : World) (g : Nat) : Prop where
  gr : w.grownBy v (some g)
  cu : Cu v g
  ng : g < w.heap.size
theorem DG.start {w : World} {g : Nat} (h : Cu w g) : DG w w g := ⟨grownBy_same _ _, h, h.lt⟩
theorem DG.step {w v v' : World} {g : Nat} (h : DG w v g) (hg : v.grownBy v' (some g)) (hc : Cu v' g) : DG w v' g := ⟨grownBy_trans h.gr hg, hc, h.ng⟩
theorem DG.call {w v v' : World} {g : Nat} (h : DG w v g) (hb : Below v.heap.size v v') : DG w v' g := h.step (grown_of_below hb _) (h.cu.below hb)
theorem DG.alloc {w v : World} {g : Nat} (h : DG w v g) (o : Obj) : DG w (v.alloc o) g := h.call (below_alloc _ _)
theorem DG.set {w v : World} {g : Nat} (h : DG w v g) {b : Nat} (hb : w.heap.size ≤ b) (o : Nat) (x : Value) : DG w (v.setCell ⟨b, o, none⟩ x) g := ⟨grown_new h.gr _ _ _ hb, h.cu.set _ _ _ (by have := h.ng; omega), h.ng⟩
theorem Bk.grownR {v v' : World} {b g : Nat} {T : TypeId} {vs : List Value} (h : Bk v b T vs) (hg : v.grownBy v' (some g)) (hne : b ≠ g) : Bk v' b T vs := (hg.block b h.lt (fun e => hne (by cases e; rfl))).trans h
theorem l08User_tab (k : Nat) (h : k < 12) : ∃ s : ByteArray, (#[.string ⟨#[97]⟩, .string ⟨#[98]⟩, .string ⟨#[99]⟩, .string ⟨#[100]⟩, .string ⟨#[101]⟩, .string ⟨#[102]⟩, .string ⟨#[103]⟩, .string ⟨#[104]⟩, .string ⟨#[97, 97]⟩, .string ⟨#[107, 49]⟩, .string ⟨#[122, 122, 122, 122, 122, 122, 122, 122]⟩, .string ⟨#[0]⟩] : Array Value)[k]? = some (.string s) := by
  rcases (by omega : k = 0 ∨ k = 1 ∨ k = 2 ∨ k = 3 ∨ k = 4 ∨ k = 5 ∨ k = 6 ∨ k = 7 ∨ k = 8 ∨ k = 9 ∨ k = 10 ∨ k = 11) with rfl | rfl | rfl | rfl | rfl | rfl | rfl | rfl | rfl | rfl | rfl | rfl
  · exact ⟨_, rfl⟩
  · exact ⟨_, rfl⟩
  · exact ⟨_, rfl⟩
  · exact ⟨_, rfl⟩
  · exact ⟨_, rfl⟩
  · exact ⟨_, rfl⟩
  · exact ⟨_, rfl⟩
  · exact ⟨_, rfl⟩
  · exact ⟨_, rfl⟩
  · exact ⟨_, rfl⟩
  · exact ⟨_, rfl⟩
  · exact ⟨_, rfl⟩
set_option maxHeartbeats 4000000 in
theorem l08User_any (g : Nat) (w : World) (h : Cu w g) : Calls Tryd.prog 50 #[.pointer (some ⟨g, 0, none⟩)] w fun e w' => (∃ s : ByteArray, e = .returned (.string s)) ∧ w.grownBy w' (some g) ∧ Cu w' g := by
  have D0 := hid ((DG.start h).alloc (.cells #[.string ⟨#[97]⟩, .string ⟨#[98]⟩, .string ⟨#[99]⟩, .string ⟨#[100]⟩, .string ⟨#[101]⟩, .string ⟨#[102]⟩, .string ⟨#[103]⟩, .string ⟨#[104]⟩, .string ⟨#[97, 97]⟩, .string ⟨#[107, 49]⟩, .string ⟨#[122, 122, 122, 122, 122, 122, 122, 122]⟩, .string ⟨#[0]⟩] 9))
  have K0 := hid (Bk.new w 9 [.string ⟨#[97]⟩, .string ⟨#[98]⟩, .string ⟨#[99]⟩, .string ⟨#[100]⟩, .string ⟨#[101]⟩, .string ⟨#[102]⟩, .string ⟨#[103]⟩, .string ⟨#[104]⟩, .string ⟨#[97, 97]⟩, .string ⟨#[107, 49]⟩, .string ⟨#[122, 122, 122, 122, 122, 122, 122, 122]⟩, .string ⟨#[0]⟩])
  clear h
  go_enter Tryd.func50, Tryd.ntmps50
  go_wp2_with fail
  refine (below_any g 24 _ D0.out.cu (by omega) (by omega)).mono ?_
  generalize w.alloc (.cells #[.string ⟨#[97]⟩, .string ⟨#[98]⟩, .string ⟨#[99]⟩, .string ⟨#[100]⟩, .string ⟨#[101]⟩, .string ⟨#[102]⟩, .string ⟨#[103]⟩, .string ⟨#[104]⟩, .string ⟨#[97, 97]⟩, .string ⟨#[107, 49]⟩, .string ⟨#[122, 122, 122, 122, 122, 122, 122, 122]⟩, .string ⟨#[0]⟩] 9) = U at *
  rintro e w1 ⟨⟨x, rfl, hx0, hx1⟩, hg1, hc1⟩
  have D1 := hid (D0.out.step hg1 hc1)
  have K1 := hid (K0.out.grownR hg1 (by have := D0.out.ng; omega))
  clear hg1 hc1 D0 K0
  obtain ⟨k, hk, hkl⟩ : ∃ k : Nat, x.tmod 12 = (k : Int) ∧ k < 12 := ⟨(x % 12).toNat, by rw [Int.tmod_eq_emod_of_nonneg hx0]; omega, by omega⟩
  obtain ⟨s, hs⟩ := l08User_tab k hkl
  have hc : w1.cell? ⟨w.heap.size, k, none⟩ = some (.string s) := K1.out.cell (j := k) (by simpa using hs)
  have hkl' : (k : Int) < 12 := by omega
  clear hs K1
  go_wp2
  go_ret
  exact ⟨⟨s, rfl⟩, D1.out.gr, D1.out.cu⟩
theorem l08Uval_tab (k : Nat) (h : k < 6) : ∃ s : ByteArray, (#[.string ⟨#[]⟩, .string ⟨#[49]⟩, .string ⟨#[50]⟩, .string ⟨#[120]⟩, .string ⟨#[121, 121]⟩, .string ⟨#[49, 50, 51, 52, 53, 54, 55, 56, 57, 48, 49, 50, 51, 52, 53, 54, 55, 56, 57, 48]⟩] : Array Value)[k]? = some (.string s) := by
  rcases (by omega : k = 0 ∨ k = 1 ∨ k = 2 ∨ k = 3 ∨ k = 4 ∨ k = 5) with rfl | rfl | rfl | rfl | rfl | rfl
  · exact ⟨_, rfl⟩
  · exact ⟨_, rfl⟩
  · exact ⟨_, rfl⟩
  · exact ⟨_, rfl⟩
  · exact ⟨_, rfl⟩
  · exact ⟨_, rfl⟩
set_option maxHeartbeats 4000000 in
theorem l08Uval_any (g : Nat) (w : World) (h : Cu w g) : Calls Tryd.prog 51 #[.pointer (some ⟨g, 0, none⟩)] w fun e w' => (∃ s : ByteArray, e = .returned (.string s)) ∧ w.grownBy w' (some g) ∧ Cu w' g := by
  have D0 := hid ((DG.start h).alloc (.cells #[.string ⟨#[]⟩, .string ⟨#[49]⟩, .string ⟨#[50]⟩, .string ⟨#[120]⟩, .string ⟨#[121, 121]⟩, .string ⟨#[49, 50, 51, 52, 53, 54, 55, 56, 57, 48, 49, 50, 51, 52, 53, 54, 55, 56, 57, 48]⟩] 9))
  have K0 := hid (Bk.new w 9 [.string ⟨#[]⟩, .string ⟨#[49]⟩, .string ⟨#[50]⟩, .string ⟨#[120]⟩, .string ⟨#[121, 121]⟩, .string ⟨#[49, 50, 51, 52, 53, 54, 55, 56, 57, 48, 49, 50, 51, 52, 53, 54, 55, 56, 57, 48]⟩])
  clear h
  go_enter Tryd.func51, Tryd.ntmps51
  go_wp2_with fail
  refine (below_any g 6 _ D0.out.cu (by omega) (by omega)).mono ?_
  generalize w.alloc (.cells #[.string ⟨#[]⟩, .string ⟨#[49]⟩, .string ⟨#[50]⟩, .string ⟨#[120]⟩, .string ⟨#[121, 121]⟩, .string ⟨#[49, 50, 51, 52, 53, 54, 55, 56, 57, 48, 49, 50, 51, 52, 53, 54, 55, 56, 57, 48]⟩] 9) = U at *
  rintro e w1 ⟨⟨x, rfl, hx0, hx1⟩, hg1, hc1⟩
  have D1 := hid (D0.out.step hg1 hc1)
  have K1 := hid (K0.out.grownR hg1 (by have := D0.out.ng; omega))
  clear hg1 hc1 D0 K0
  obtain ⟨k, rfl⟩ : ∃ k : Nat, x = (k : Int) := ⟨x.toNat, by omega⟩
  have hkl : k < 6 := by omega
  obtain ⟨s, hs⟩ := l08Uval_tab k hkl
  have hc : w1.cell? ⟨w.heap.size, k, none⟩ = some (.string s) := K1.out.cell (j := k) (by simpa using hs)
  have hkl' : (k : Int) < 6 := by omega
  clear hs K1
  go_wp2
  go_ret
  exact ⟨⟨s, rfl⟩, D1.out.gr, D1.out.cu⟩
end Go.Proofs.YtbaggkfgnjenoacDoor
/-
  The reaches and records that the laws draw.
-/
namespace Go.Proofs.YtbaggkfgnjenoacDoor
open Go.RowKit
set_option linter.unusedVariables false
set_option maxHeartbeats 4000000 in
theorem l08Reach_any (g : Nat) (w : World) (h : Cu w g) : Calls Tryd.prog 64 #[.pointer (some ⟨g, 0, none⟩)] w fun e w' => (∃ lo hi : ByteArray, e = .returned (.agg #[.string lo, .string hi])) ∧ w.grownBy w' (some g) ∧ Cu w' g := by
  have D0 := hid (Dw.new h ⟨#[]⟩ ⟨#[]⟩)
  clear h
  go_enter Tryd.func64, Tryd.ntmps64
  go_wp2_with fail
  refine (l08User_any g _ D0.out.cu).mono ?_
  rintro e w1 ⟨⟨a, rfl⟩, hg1, hc1⟩
  have D1 := hid (D0.out.step hg1 hc1)
  clear hg1 hc1 D0
  go_wp2_with fail
  refine (l08User_any g _ D1.out.cu).mono ?_
  rintro e w2 ⟨⟨b, rfl⟩, hg1, hc1⟩
  have D2 := hid (D1.out.step hg1 hc1)
  clear hg1 hc1 D1
  have HPO : Hid (∀ w, Calls Tryd.prog 72 #[.string a] w fun e w' => e = .returned (.agg #[.string (ptLo a), .string (ptHi a)]) ∧ Below w.heap.size w w') := fun w => specPointOf_any a w
  generalize ptLo a = pl at *
  generalize ptHi a = ph at *
  have late : Hid (∀ t1 : Op.bytesLess a.toList b.toList = true, True) := fun _ => trivial
  clear late
  rcases tri a b with ⟨t1, t2, t3, t4⟩ | rfl | ⟨t1, t2, t3, t4⟩
  · go_wp2_with fail
    refine (below_any g 4 _ D2.out.cu (by omega) (by omega)).mono ?_
    rintro e w3 ⟨⟨x, rfl, hx0, hx1⟩, hg1, hc1⟩
    have D3 := hid (D2.out.step hg1 hc1)
    clear hg1 hc1 D2
    obtain ⟨r0, r1, r2, r3⟩ := D3.out.bk.facts
    by_cases hx : x = 0
    · subst hx
      clear hx0 hx1
      go_wp2
      try simp only [Exit.inBlock, Exit.then]
      refine bodyPost_ret (v := rng a ⟨#[]⟩) ?_ rfl ?_
      · exact results_rng rfl _ _ _ rfl (by go_simp) (by go_simp)
      · exact ⟨⟨_, _, rfl⟩, D3.out.set0.set1.gr, D3.out.set0.set1.cu⟩
    · have hx2 : (x == 0) = false := by simpa using hx
      go_wp2
      try simp only [Exit.inBlock, Exit.then]
      refine bodyPost_ret (v := rng a b) ?_ rfl ?_
      · exact results_rng rfl _ _ _ rfl (by go_simp) (by go_simp)
      · exact ⟨⟨_, _, rfl⟩, D3.out.set0.set1.gr, D3.out.set0.set1.cu⟩
  · have t9 := less_irrefl a.toList
    go_wp2_with fail
    refine (HPO.out _).mono ?_
    rintro e w4 ⟨rfl, hb4⟩
    have D4 := hid (D2.out.call hb4)
    clear hb4 D2
    obtain ⟨r0, r1, r2, r3⟩ := D4.out.bk.facts
    go_wp2
    try simp only [Exit.inBlock, Exit.then]
    refine bodyPost_ret (v := rng pl ph) ?_ rfl ?_
    · exact results_rng rfl _ _ _ rfl (by go_simp) (by go_simp)
    · exact ⟨⟨_, _, rfl⟩, D4.out.set0.set1.gr, D4.out.set0.set1.cu⟩
  · go_wp2_with fail
    refine (HPO.out _).mono ?_
    rintro e w4 ⟨rfl, hb4⟩
    have D4 := hid (D2.out.call hb4)
    clear hb4 D2
    obtain ⟨r0, r1, r2, r3⟩ := D4.out.bk.facts
    go_wp2
    try simp only [Exit.inBlock, Exit.then]
    refine bodyPost_ret (v := rng pl ph) ?_ rfl ?_
    · exact results_rng rfl _ _ _ rfl (by go_simp) (by go_simp)
    · exact ⟨⟨_, _, rfl⟩, D4.out.set0.set1.gr, D4.out.set0.set1.cu⟩
end Go.Proofs.YtbaggkfgnjenoacDoor
/-
  Messages: when one is right, in plain; MsgOk of the program.
-/
namespace Go.Proofs.YtbaggkfgnjenoacDoor
open Go.RowKit
set_option linter.unusedVariables false
def nuOk (nu : Int) : Bool := decide (1 ≤ nu) && decide (nu ≤ 16)
def stN (st : Int) : Bool := decide (0 < st) && decide (st ≤ 1099511627775)
def stC (cd st : Int) : Bool := if cd = 0 then stN st else decide (st = 0)
def noT (st cd : Int) (pn : Nat) : Bool := decide (st = 0) && (decide (cd = 0) && decide (pn = 0))
def upOk (p : PB) : Bool := uOk p.1 && uvOk p.2
def prsOk (ps : List PB) : Bool := decide (ps.length ≤ 8) && ps.all upOk
def tel (st cd : Int) (ps : List PB) : Bool := (decide (0 ≤ cd) && decide (cd ≤ 9)) && (stC cd st && prsOk ps)
def prtOk (kd nu st : Int) (ak az : Bool) (cd : Int) (ps : List PB) (ys : Bool) : Bool :=
  if kd = 1 then nuOk nu && (ak && (noT st cd ps.length && !ys))
  else if kd = 2 then nuOk nu && (tel st cd ps && (az && !ys))
  else if kd = 3 then (decide (cd = 0) && decide (ps.length = 0)) && (nuOk nu && (tel st cd ps && (az && !ys)))
  else if kd = 4 ∨ kd = 5 then decide (nu = 0) && (az && noT st cd ps.length)
  else if kd = 6 ∨ kd = 7 then !ys && (decide (nu = 0) && (az && noT st cd ps.length))
  else false
def mgOk (kd c e n sh nu st : Int) (ak az : Bool) (cd : Int) (ps : List PB) (ys : Bool) : Bool := txOk (c, e, n) && (decide (0 ≤ sh) && (decide (sh < 4) && prtOk kd nu st ak az cd ps ys))
theorem prtOk_1 (nu st : Int) (ak az : Bool) (cd : Int) (ps : List PB) (ys : Bool) : prtOk 1 nu st ak az cd ps ys = (nuOk nu && (ak && (noT st cd ps.length && !ys))) := rfl
theorem prtOk_2 (nu st : Int) (ak az : Bool) (cd : Int) (ps : List PB) (ys : Bool) : prtOk 2 nu st ak az cd ps ys = (nuOk nu && (tel st cd ps && (az && !ys))) := rfl
theorem prtOk_3 (nu st : Int) (ak az : Bool) (cd : Int) (ps : List PB) (ys : Bool) : prtOk 3 nu st ak az cd ps ys = ((decide (cd = 0) && decide (ps.length = 0)) && (nuOk nu && (tel st cd ps && (az && !ys)))) := rfl
theorem prtOk_4 (nu st : Int) (ak az : Bool) (cd : Int) (ps : List PB) (ys : Bool) : prtOk 4 nu st ak az cd ps ys = (decide (nu = 0) && (az && noT st cd ps.length)) := rfl
theorem prtOk_5 (nu st : Int) (ak az : Bool) (cd : Int) (ps : List PB) (ys : Bool) : prtOk 5 nu st ak az cd ps ys = (decide (nu = 0) && (az && noT st cd ps.length)) := rfl
theorem prtOk_6 (nu st : Int) (ak az : Bool) (cd : Int) (ps : List PB) (ys : Bool) : prtOk 6 nu st ak az cd ps ys = (!ys && (decide (nu = 0) && (az && noT st cd ps.length))) := rfl
theorem prtOk_7 (nu st : Int) (ak az : Bool) (cd : Int) (ps : List PB) (ys : Bool) : prtOk 7 nu st ak az cd ps ys = (!ys && (decide (nu = 0) && (az && noT st cd ps.length))) := rfl
theorem prtOk_no {kd : Int} (h : ¬ (1 ≤ kd ∧ kd ≤ 7)) (nu st : Int) (ak az : Bool) (cd : Int) (ps : List PB) (ys : Bool) : prtOk kd nu st ak az cd ps ys = false := by
  unfold prtOk
  rw [if_neg (by omega), if_neg (by omega), if_neg (by omega), if_neg (by omega), if_neg (by omega)]
theorem askNumOk_any (nu : Int) (w : World) : Calls Tryd.prog 55 #[.int .i64 nu] w fun e w' => e = .returned (.bool (nuOk nu)) ∧ w = w' := by
  by_cases h : 1 ≤ nu
  · have HE : Hid (nuOk nu = decide (nu ≤ 16)) := by show nuOk nu = _; simp [nuOk, h]
    go_enter Tryd.func55, Tryd.ntmps55
    go_wp2
    go_ret
    exact ⟨by rw [HE.out]; rfl, rfl⟩
  · have HE : Hid (nuOk nu = false) := by show nuOk nu = false; simp [nuOk, h]
    go_enter Tryd.func55, Tryd.ntmps55
    go_wp2
    go_ret
    exact ⟨by rw [HE.out]; rfl, rfl⟩
theorem isNumberM_any (m : Int) (w : World) : Calls Tryd.prog 40 #[.int .i64 m] w fun e w' => e = .returned (.bool (decide (0 ≤ m) && decide (m ≤ 1099511627775))) ∧ w = w' := by
  by_cases h : 0 ≤ m
  · have HE : Hid ((decide (0 ≤ m) && decide (m ≤ 1099511627775)) = decide (m ≤ 1099511627775)) := by show _ = _; simp [h]
    go_enter Tryd.func40, Tryd.ntmps40
    go_wp2
    go_ret
    exact ⟨by rw [HE.out]; rfl, rfl⟩
  · have HE : Hid ((decide (0 ≤ m) && decide (m ≤ 1099511627775)) = false) := by show _ = false; simp [h]
    go_enter Tryd.func40, Tryd.ntmps40
    go_wp2
    go_ret
    exact ⟨by rw [HE.out]; rfl, rfl⟩
theorem all_take_succ {α : Type} (l : List α) (f : α → Bool) (d : α) {m : Nat} (h : m < l.length) : (l.take (m + 1)).all f = ((l.take m).all f && f (l[m]?.getD d)) := by
  rw [List.take_succ_eq_append_getElem h, List.all_append]
  simp [h]
theorem all_no {α : Type} (l : List α) (f : α → Bool) (d : α) {m : Nat} (h : m < l.length) (hf : f (l[m]?.getD d) = false) : l.all f = false := by
  rw [List.all_eq_false]
  refine ⟨l[m], List.getElem_mem h, ?_⟩
  simp [h] at hf
  simp [hf]
theorem pAtB_get (l : List PB) (m : Nat) : pAtB l m = l[m]?.getD (⟨#[]⟩, ⟨#[]⟩) := rfl
set_option maxHeartbeats 1600000 in
theorem userPairsOk_any (S : Nat → Prop) (a : Option Addr) (n c : Nat) (l : List PB) (w : World) (h : Pr w S (.slice a n c) l) :
    Calls Tryd.prog 70 #[.slice a n c] w fun e w' => e = .returned (.bool (prsOk l)) ∧ Below w.heap.size w w' := by
  have HN := hid (Rw.len h).1
  have hcc := (Rw.len h).2
  have H0 := hid h
  clear h
  by_cases hbig : 8 < n
  · have hbig' : (8 : Int) < (n : Int) := by omega
    have HV : Hid (prsOk l = false) := by show _ = false; simp [prsOk, ← HN.out]; omega
    go_enter Tryd.func70, Tryd.ntmps70
    go_wp2
    go_ret
    exact ⟨by rw [HV.out]; rfl, Below.refl _ _⟩
  · have hbig' : ¬ (8 : Int) < (n : Int) := by omega
    have HV : Hid (prsOk l = l.all upOk) := by
      show _ = _
      have : l.length ≤ 8 := by rw [← HN.out]; omega
      simp [prsOk, this]
    go_enter Tryd.func70, Tryd.ntmps70
    go_wp2_with fail
    go_loopw [10] (fun i v => ∃ k : Nat, k ≤ n ∧ i = .int .i64 k ∧ Hid (Below w.heap.size w v) ∧ Hid ((l.take k).all upOk = true)) (fun i _ => n - (intOf i).toNat)
    case atStart => exact ⟨0, Nat.zero_le _, rfl, Below.refl _ _, rfl⟩
    case round =>
      obtain ⟨m, hm, rfl, HB, HT⟩ := hrel
      by_cases hlt : m < n
      · have hlt' : (m : Int) < (n : Int) := by omega
        have hml : m < l.length := by rw [← HN.out]; exact hlt
        obtain ⟨b, off, ha, -, -, hcell⟩ := Pr.at (H0.out.below HB.out) (by omega)
        obtain ⟨hc0, hc1⟩ := hcell m hlt
        clear hcell
        subst ha
        have HCU : Hid (l[m]?.getD (⟨#[]⟩, ⟨#[]⟩) = pAtB l m) := rfl
        generalize pAtB l m = cur at hc0 hc1 HCU
        obtain ⟨xk, xv⟩ := cur
        have HB1 : Hid (Below w.heap.size w (wr.alloc (.cells #[.string xk, .string xv] 54))) := HB.out.alloc HB.out.size _
        have HX : Hid (upOk (xk, xv) = (uOk xk && uvOk xv)) := rfl
        go_wp2_with fail
        refine (implUserOk_any xk _).mono ?_
        rintro r w' ⟨rfl, rfl⟩
        cases h1 : uOk xk
        · have HZ : Hid (l.all upOk = false) := all_no l upOk (⟨#[]⟩, ⟨#[]⟩) hml (by rw [HCU.out, HX.out, h1]; rfl)
          go_wp2
          go_ret
          exact ⟨by rw [HV.out, HZ.out]; rfl, HB1.out⟩
        · go_wp2_with fail
          refine (implUvalOk_any xv _).mono ?_
          rintro r w' ⟨rfl, rfl⟩
          cases h2 : uvOk xv
          · have HZ : Hid (l.all upOk = false) := all_no l upOk (⟨#[]⟩, ⟨#[]⟩) hml (by rw [HCU.out, HX.out, h1, h2]; rfl)
            go_wp2
            go_ret
            exact ⟨by rw [HV.out, HZ.out]; rfl, HB1.out⟩
          · have HZ : Hid ((l.take (m + 1)).all upOk = true) := by
              show _ = true
              rw [all_take_succ l upOk (⟨#[]⟩, ⟨#[]⟩) hml, HT.out, HCU.out, HX.out, h1, h2]; rfl
            go_wp2
            go_roundw
            case rel => exact ⟨m + 1, by omega, by go_num, HB1.out, HZ.out⟩
            case measure => simp [intOf]; omega
      · have HA : Hid (l.all upOk = true) := by
          have := HT.out
          rwa [List.take_of_length_le (by rw [← HN.out]; omega)] at this
        go_wp2
        go_ret
        exact ⟨by rw [HV.out, HA.out]; rfl, HB.out⟩
end Go.Proofs.YtbaggkfgnjenoacDoor
/-
  Asks: the law's helpers, AskLock on both sides, the laws FnExactAskOk and FnExactAskLock.
-/
namespace Go.Proofs.YtbaggkfgnjenoacDoor
open Go.RowKit
set_option linter.unusedVariables false
theorem load_ask {w : World} {g : Nat} {k : Int} {ky vl lo hi : ByteArray} {mo : Int} {bk : Bool} (c0 : w.cell? ⟨g, 0, none⟩ = some (.int .i64 k)) (c1 : w.cell? ⟨g, 1, none⟩ = some (.string ky)) (c2 : w.cell? ⟨g, 2, none⟩ = some (.string vl)) (c3 : w.cell? ⟨g, 3, none⟩ = some (.string lo)) (c4 : w.cell? ⟨g, 4, none⟩ = some (.string hi)) (c5 : w.cell? ⟨g, 5, none⟩ = some (.int .i64 mo)) (c6 : w.cell? ⟨g, 6, none⟩ = some (.bool bk)) :
    (loadVar 28 ⟨g, 0, none⟩).run Tryd.prog w = .ok (.agg #[.int .i64 k, .string ky, .string vl, .string lo, .string hi, .int .i64 mo, .bool bk]) w := by go_simp
theorem results_ask {fn : Func} {p : Tmp} (h : fn.results = #[.cell p 28]) (tmps : Array Value) (w : World) (g : Nat) {k : Int} {ky vl lo hi : ByteArray} {mo : Int} {bk : Bool} (hp : tmps.getD p undef = .pointer (some ⟨g, 0, none⟩)) (c0 : w.cell? ⟨g, 0, none⟩ = some (.int .i64 k)) (c1 : w.cell? ⟨g, 1, none⟩ = some (.string ky)) (c2 : w.cell? ⟨g, 2, none⟩ = some (.string vl)) (c3 : w.cell? ⟨g, 3, none⟩ = some (.string lo)) (c4 : w.cell? ⟨g, 4, none⟩ = some (.string hi)) (c5 : w.cell? ⟨g, 5, none⟩ = some (.int .i64 mo)) (c6 : w.cell? ⟨g, 6, none⟩ = some (.bool bk)) :
    (results fn tmps).run Tryd.prog w = .ok (.agg #[.int .i64 k, .string ky, .string vl, .string lo, .string hi, .int .i64 mo, .bool bk]) w := by
  have hp' : tmps[p]?.getD undef = .pointer (some ⟨g, 0, none⟩) := by simpa using hp
  simp [results, h, hp', asAddr, load_ask c0 c1 c2 c3 c4 c5 c6]
def alLo (k : Int) (ky vl lo hi : ByteArray) (mo : Int) (bk : Bool) : ByteArray := if akOk k ky vl lo hi mo bk then (if k = 4 then lo else ptLo ky) else ⟨#[]⟩
def alHi (k : Int) (ky vl lo hi : ByteArray) (mo : Int) (bk : Bool) : ByteArray := if akOk k ky vl lo hi mo bk then (if k = 4 then hi else ptHi ky) else ⟨#[]⟩
def alEx (k : Int) (ky vl lo hi : ByteArray) (mo : Int) (bk : Bool) : Bool := akOk k ky vl lo hi mo bk && (decide (k ≠ 4) && decide (k ≠ 1))
end Go.Proofs.YtbaggkfgnjenoacDoor
/-
  Messages as bytes, in plain.
-/
namespace Go.Proofs.YtbaggkfgnjenoacDoor
open Go.RowKit
set_option linter.unusedVariables false
def bit (b : Bool) : Int := if b then 1 else 0
def nparts : List Int → List Int
  | [] => []
  | n :: l => enc n ++ nparts l
def pparts : List PB → List Int
  | [] => []
  | p :: l => (tpart p.1 ++ tpart p.2) ++ pparts l
theorem nparts_append (l r : List Int) : nparts (l ++ r) = nparts l ++ nparts r := by
  induction l with
  | nil => rfl
  | cons s l ih => simp only [List.cons_append, nparts, ih, List.append_assoc]
theorem pparts_append (l r : List PB) : pparts (l ++ r) = pparts l ++ pparts r := by
  induction l with
  | nil => rfl
  | cons s l ih => simp only [List.cons_append, pparts, ih, List.append_assoc]
theorem nparts_len (l : List Int) : (nparts l).length ≤ l.length * 7 := by
  induction l with
  | nil => simp [nparts]
  | cons s l ih =>
    have h1 := enc_len s
    simp only [nparts, List.length_append, List.length_cons]
    omega
theorem pparts_len (l : List PB) (h : ∀ p ∈ l, p.1.size ≤ 20 ∧ p.2.size ≤ 20) : (pparts l).length ≤ l.length * 54 := by
  induction l with
  | nil => simp [pparts]
  | cons s l ih =>
    have h1 := tpart_len s.1
    have h2 := tpart_len s.2
    have h3 := h s (by simp)
    have h4 := ih (fun x hx => h x (by simp [hx]))
    simp only [pparts, List.length_append, List.length_cons]
    omega
theorem nparts_byte (l : List Int) (h : ∀ m ∈ l, 0 ≤ m ∧ m ≤ 1099511627775) : ∀ z ∈ nparts l, 0 ≤ z ∧ z ≤ 255 := by
  induction l with
  | nil => intro z hz; cases hz
  | cons s l ih => exact byte_append (enc_byte s (h s (by simp)).1 (h s (by simp)).2) (ih (fun x hx => h x (by simp [hx])))
theorem pparts_byte (l : List PB) (h : ∀ p ∈ l, p.1.size ≤ 20 ∧ p.2.size ≤ 20) : ∀ z ∈ pparts l, 0 ≤ z ∧ z ≤ 255 := by
  induction l with
  | nil => intro z hz; cases hz
  | cons s l ih =>
    have h3 := h s (by simp)
    exact byte_append (byte_append (tpart_byte _ (by omega)) (tpart_byte _ (by omega))) (ih (fun x hx => h x (by simp [hx])))
theorem nparts_take {l : List Int} {j : Nat} (h : j < l.length) : nparts (l.take (j + 1)) = nparts (l.take j) ++ enc (l[j]?.getD 0) := by
  rw [List.take_succ_eq_append_getElem h, nparts_append]
  simp [h, nparts]
theorem tparts_take {l : List ByteArray} {j : Nat} (h : j < l.length) : tparts (l.take (j + 1)) = tparts (l.take j) ++ tpart (l[j]?.getD ⟨#[]⟩) := by
  rw [List.take_succ_eq_append_getElem h, tparts_append]
  simp [h, tparts]
theorem pparts_take {l : List PB} {j : Nat} (h : j < l.length) : pparts (l.take (j + 1)) = pparts (l.take j) ++ (tpart (pAtB l j).1 ++ tpart (pAtB l j).2) := by
  rw [List.take_succ_eq_append_getElem h, pparts_append]
  simp [h, pparts, pAtB]
def mgBy (kd c e n sh nu st k : Int) (ky vl lo hi : ByteArray) (mo : Int) (bk : Bool) (cd : Int) (ps : List PB) (ys : Bool) : List Int :=
  nparts [kd, c, e, n, sh, nu, st, k] ++ (tparts [ky, vl, lo, hi] ++ (nparts [mo, bit bk, cd, (ps.length : Int)] ++ (pparts ps ++ enc (bit ys))))
def mgBytes (kd c e n sh nu st k : Int) (ky vl lo hi : ByteArray) (mo : Int) (bk : Bool) (cd : Int) (ps : List PB) (ys : Bool) : Option (List Int) :=
  if mgOk kd c e n sh nu st (akOk k ky vl lo hi mo bk) (akZ k ky vl lo hi mo bk) cd ps ys = true then some (mgBy kd c e n sh nu st k ky vl lo hi mo bk cd ps ys) else none
/-- What a right message has within bounds. -/
structure MgF (kd c e n sh nu st k : Int) (ky vl lo hi : ByteArray) (mo : Int) (cd : Int) (ps : List PB) : Prop where
  n1 : ∀ m ∈ [kd, c, e, n, sh, nu, st, k], 0 ≤ m ∧ m ≤ 1099511627775
  s1 : ∀ s ∈ [ky, vl, lo, hi], s.size ≤ 20
  hmo : 0 ≤ mo ∧ mo ≤ 8
  hcd : 0 ≤ cd ∧ cd ≤ 9
  hpl : ps.length ≤ 8
  hps : ∀ p ∈ ps, p.1.size ≤ 20 ∧ p.2.size ≤ 20
theorem isE_size {s : ByteArray} (h : isE s = true) : s.size = 0 := by
  unfold isE at h
  have h1 : s.toList = [] := of_decide_eq_true h
  rw [ByteArray.toList_eq] at h1
  have : s.data.toList.length = 0 := by
    cases hs : s.data.toList with
    | nil => rfl
    | cons a l => rw [hs] at h1; simp at h1
  rw [show s.size = s.data.toList.length from (Array.length_toList (xs := s.data)).symm]; exact this
theorem akK_facts {ky vl lo hi : ByteArray} {mo : Int} {bk : Bool} (h : akK ky vl lo hi mo bk = true) : ky.size ≤ 8 ∧ vl.size ≤ 20 ∧ lo.size ≤ 9 ∧ hi.size ≤ 9 ∧ 0 ≤ mo ∧ mo ≤ 8 := by
  simp only [akK, Bool.and_eq_true, uOk, uvOk, decide_eq_true_eq] at h
  obtain ⟨⟨h1, h2⟩, h3, ⟨h4, h5⟩, h6, _⟩ := h
  have := isE_size h4
  have := isE_size h5
  omega
theorem akOk_facts {k : Int} {ky vl lo hi : ByteArray} {mo : Int} {bk : Bool} (h : akOk k ky vl lo hi mo bk = true) : (1 ≤ k ∧ k ≤ 4) ∧ ky.size ≤ 8 ∧ vl.size ≤ 20 ∧ lo.size ≤ 9 ∧ hi.size ≤ 9 ∧ 0 ≤ mo ∧ mo ≤ 8 := by
  unfold akOk at h
  split at h
  · rename_i hk
    simp only [akS, rchOk, Bool.and_eq_true, decide_eq_true_eq] at h
    obtain ⟨⟨h1, h2⟩, ⟨_, h3, h4⟩, h5, h6⟩ := h
    have := isE_size h5
    have := isE_size h6
    omega
  · split at h
    · have := akK_facts h
      omega
    · split at h
      · rw [Bool.and_eq_true] at h
        have := akK_facts h.2
        omega
      · cases h
theorem akZ_facts {k : Int} {ky vl lo hi : ByteArray} {mo : Int} {bk : Bool} (h : akZ k ky vl lo hi mo bk = true) : k = 0 ∧ ky.size = 0 ∧ vl.size = 0 ∧ lo.size = 0 ∧ hi.size = 0 ∧ mo = 0 := by
  simp only [akZ, Bool.and_eq_true, decide_eq_true_eq] at h
  obtain ⟨h0, h1, h2, ⟨h3, h4⟩, h5, _⟩ := h
  exact ⟨h0, isE_size h1, isE_size h2, isE_size h3, isE_size h4, h5⟩
theorem noT_facts {st cd : Int} {pn : Nat} (h : noT st cd pn = true) : st = 0 ∧ cd = 0 ∧ pn = 0 := by
  simpa only [noT, Bool.and_eq_true, decide_eq_true_eq] using h
theorem tel_facts {st cd : Int} {ps : List PB} (h : tel st cd ps = true) : (0 ≤ cd ∧ cd ≤ 9) ∧ (0 ≤ st ∧ st ≤ 1099511627775) ∧ ps.length ≤ 8 ∧ ∀ p ∈ ps, p.1.size ≤ 20 ∧ p.2.size ≤ 20 := by
  simp only [tel, prsOk, Bool.and_eq_true, decide_eq_true_eq, List.all_eq_true] at h
  obtain ⟨h1, h2, h3, h4⟩ := h
  refine ⟨h1, ?_, h3, fun p hp => ?_⟩
  · unfold stC at h2
    split at h2
    · simp only [stN, Bool.and_eq_true, decide_eq_true_eq] at h2
      omega
    · have := of_decide_eq_true h2
      omega
  · have := h4 p hp
    simp only [upOk, uOk, uvOk, Bool.and_eq_true, decide_eq_true_eq] at this
    omega
theorem nuOk_facts {nu : Int} (h : nuOk nu = true) : 1 ≤ nu ∧ nu ≤ 16 := by simpa only [nuOk, Bool.and_eq_true, decide_eq_true_eq] using h
theorem mem8 {P : Int → Prop} {a b c d e f g h : Int} (h0 : P a) (h1 : P b) (h2 : P c) (h3 : P d) (h4 : P e) (h5 : P f) (h6 : P g) (h7 : P h) : ∀ m ∈ [a, b, c, d, e, f, g, h], P m := by
  intro m hm
  simp only [List.mem_cons, List.not_mem_nil, or_false] at hm
  rcases hm with rfl | rfl | rfl | rfl | rfl | rfl | rfl | rfl <;> assumption
theorem mem4 {P : ByteArray → Prop} {a b c d : ByteArray} (h0 : P a) (h1 : P b) (h2 : P c) (h3 : P d) : ∀ m ∈ [a, b, c, d], P m := by
  intro m hm
  simp only [List.mem_cons, List.not_mem_nil, or_false] at hm
  rcases hm with rfl | rfl | rfl | rfl <;> assumption
theorem mgOk_facts {kd c e n sh nu st k : Int} {ky vl lo hi : ByteArray} {mo : Int} {bk : Bool} {cd : Int} {ps : List PB} {ys : Bool} (h : mgOk kd c e n sh nu st (akOk k ky vl lo hi mo bk) (akZ k ky vl lo hi mo bk) cd ps ys = true) : MgF kd c e n sh nu st k ky vl lo hi mo cd ps := by
  simp only [mgOk, Bool.and_eq_true, decide_eq_true_eq] at h
  obtain ⟨h1, h2, h3, h4⟩ := h
  obtain ⟨t0, t1, t2, t3, t4, t5⟩ := (txOk_iff (c, e, n)).1 h1
  simp only at t0 t1 t2 t3 t4 t5
  have key : (1 ≤ kd ∧ kd ≤ 7) ∧ (0 ≤ nu ∧ nu ≤ 16) ∧ (0 ≤ st ∧ st ≤ 1099511627775) ∧ (0 ≤ k ∧ k ≤ 4) ∧ (ky.size ≤ 20 ∧ vl.size ≤ 20 ∧ lo.size ≤ 20 ∧ hi.size ≤ 20) ∧ (0 ≤ mo ∧ mo ≤ 8) ∧ (0 ≤ cd ∧ cd ≤ 9) ∧ ps.length ≤ 8 ∧ ∀ p ∈ ps, p.1.size ≤ 20 ∧ p.2.size ≤ 20 := by
    have none : ps.length = 0 → ∀ p ∈ ps, p.1.size ≤ 20 ∧ p.2.size ≤ 20 := fun h0 p hp => by rw [List.eq_nil_of_length_eq_zero h0] at hp; cases hp
    unfold prtOk at h4
    split at h4
    · simp only [Bool.and_eq_true] at h4
      obtain ⟨a1, a2, a3, _⟩ := h4
      have b1 := nuOk_facts a1
      have b2 := akOk_facts a2
      have b3 := noT_facts a3
      refine ⟨by omega, by omega, by omega, by omega, by omega, by omega, by omega, by omega, none b3.2.2⟩
    · split at h4
      · simp only [Bool.and_eq_true] at h4
        obtain ⟨a1, a2, a3, _⟩ := h4
        have b1 := nuOk_facts a1
        have b2 := akZ_facts a3
        obtain ⟨b3, b4, b5, b6⟩ := tel_facts a2
        refine ⟨by omega, by omega, by omega, by omega, by omega, by omega, by omega, by omega, b6⟩
      · split at h4
        · simp only [Bool.and_eq_true, decide_eq_true_eq] at h4
          obtain ⟨_, a1, a2, a3, _⟩ := h4
          have b1 := nuOk_facts a1
          have b2 := akZ_facts a3
          obtain ⟨b3, b4, b5, b6⟩ := tel_facts a2
          refine ⟨by omega, by omega, by omega, by omega, by omega, by omega, by omega, by omega, b6⟩
        · split at h4
          · simp only [Bool.and_eq_true, decide_eq_true_eq] at h4
            obtain ⟨a1, a2, a3⟩ := h4
            have b2 := akZ_facts a2
            have b3 := noT_facts a3
            refine ⟨by omega, by omega, by omega, by omega, by omega, by omega, by omega, by omega, none b3.2.2⟩
          · split at h4
            · simp only [Bool.and_eq_true, decide_eq_true_eq] at h4
              obtain ⟨_, a1, a2, a3⟩ := h4
              have b2 := akZ_facts a2
              have b3 := noT_facts a3
              refine ⟨by omega, by omega, by omega, by omega, by omega, by omega, by omega, by omega, none b3.2.2⟩
            · cases h4
  obtain ⟨q1, q2, q3, q4, q5, q6, q7, q8, q9⟩ := key
  exact ⟨mem8 (by omega) (by omega) (by omega) (by omega) (by omega) (by omega) (by omega) (by omega), mem4 q5.1 q5.2.1 q5.2.2.1 q5.2.2.2, q6, q7, q8, q9⟩
theorem bit_bound (b : Bool) : 0 ≤ bit b ∧ bit b ≤ 1 := by cases b <;> decide
theorem mgN4 {mo cd : Int} {bk : Bool} {ps : List PB} (h1 : 0 ≤ mo ∧ mo ≤ 8) (h2 : 0 ≤ cd ∧ cd ≤ 9) (h3 : ps.length ≤ 8) : ∀ m ∈ [mo, bit bk, cd, (ps.length : Int)], 0 ≤ m ∧ m ≤ 1099511627775 := by
  intro m hm
  have := bit_bound bk
  simp only [List.mem_cons, List.not_mem_nil, or_false] at hm
  rcases hm with rfl | rfl | rfl | rfl <;> omega
theorem MgF.byte {kd c e n sh nu st k : Int} {ky vl lo hi : ByteArray} {mo : Int} {cd : Int} {ps : List PB} (h : MgF kd c e n sh nu st k ky vl lo hi mo cd ps) (bk ys : Bool) : ∀ z ∈ mgBy kd c e n sh nu st k ky vl lo hi mo bk cd ps ys, 0 ≤ z ∧ z ≤ 255 := by
  have hb := bit_bound ys
  exact byte_append (nparts_byte _ h.n1) (byte_append (tparts_byte _ (fun s hs => by have := h.s1 s hs; omega)) (byte_append (nparts_byte _ (mgN4 h.hmo h.hcd h.hpl)) (byte_append (pparts_byte _ h.hps) (enc_byte _ (by omega) (by omega)))))
theorem MgF.len {kd c e n sh nu st k : Int} {ky vl lo hi : ByteArray} {mo : Int} {cd : Int} {ps : List PB} (h : MgF kd c e n sh nu st k ky vl lo hi mo cd ps) (bk ys : Bool) : (mgBy kd c e n sh nu st k ky vl lo hi mo bk cd ps ys).length ≤ 800 := by
  have l1 := nparts_len [kd, c, e, n, sh, nu, st, k]
  have l2 := tparts_len [ky, vl, lo, hi] h.s1
  have l3 := nparts_len [mo, bit bk, cd, (ps.length : Int)]
  have l4 := pparts_len ps h.hps
  have l5 := enc_len (bit ys)
  have l6 := h.hpl
  simp only [List.length_cons, List.length_nil] at l1 l2 l3
  simp only [mgBy, List.length_append]
  omega
end Go.Proofs.YtbaggkfgnjenoacDoor
/-
  Messages read, in plain: what is read one behind the other; bytes that a message is written as are read as that message alone.
-/
namespace Go.Proofs.YtbaggkfgnjenoacDoor
open Go.RowKit
set_option linter.unusedVariables false
/-- Numbers read one behind the other, from the place p to the place q. -/
def NRd (zs : List Int) : Int → List Int → Int → Prop
  | p, [], q => p = q
  | p, n :: l, q => ∃ p', gv zs p = (n, p') ∧ NRd zs p' l q
/-- Texts read one behind the other. -/
def TRd (zs : List Int) : Int → List ByteArray → Int → Prop
  | p, [], q => p = q
  | p, s :: l, q => ∃ p', (strOf (gt zs p).1, (gt zs p).2) = (s, p') ∧ TRd zs p' l q
/-- Pairs of texts read one behind the other. -/
def PRd (zs : List Int) : Int → List PB → Int → Prop
  | p, [], q => p = q
  | p, s :: l, q => ∃ p', TRd zs p [s.1, s.2] p' ∧ PRd zs p' l q
theorem NRd.snoc {zs : List Int} {l : List Int} : ∀ {p q : Int}, NRd zs p l q → NRd zs p (l ++ [(gv zs q).1]) (gv zs q).2 := by
  induction l with
  | nil => intro p q h; subst h; exact ⟨_, rfl, rfl⟩
  | cons n l ih => intro p q h; obtain ⟨p', h1, h2⟩ := h; exact ⟨p', h1, ih h2⟩
theorem TRd.snoc {zs : List Int} {l : List ByteArray} : ∀ {p q : Int}, TRd zs p l q → TRd zs p (l ++ [strOf (gt zs q).1]) (gt zs q).2 := by
  induction l with
  | nil => intro p q h; subst h; exact ⟨_, rfl, rfl⟩
  | cons n l ih => intro p q h; obtain ⟨p', h1, h2⟩ := h; exact ⟨p', h1, ih h2⟩
theorem PRd.snoc {zs : List Int} {l : List PB} {a b : ByteArray} {r : Int} : ∀ {p q : Int}, PRd zs p l q → TRd zs q [a, b] r → PRd zs p (l ++ [(a, b)]) r := by
  induction l with
  | nil => intro p q h k; subst h; exact ⟨_, k, rfl⟩
  | cons n l ih => intro p q h k; obtain ⟨p', h1, h2⟩ := h; exact ⟨p', h1, ih h2 k⟩
theorem nrd_enc (l : List Int) : ∀ (pre rest l' : List Int) (q : Int) (zs : List Int), zs = pre ++ (nparts l ++ rest) → (∀ m ∈ l, 0 ≤ m ∧ m ≤ 1099511627775) → l'.length = l.length → NRd zs (pre.length : Int) l' q → l' = l ∧ q = ((pre ++ nparts l).length : Int) := by
  induction l with
  | nil =>
    intro pre rest l' q zs hz hb hl h
    obtain rfl := List.eq_nil_of_length_eq_zero hl
    have h' : (pre.length : Int) = q := h
    exact ⟨rfl, by simp [nparts, ← h']⟩
  | cons n l ih =>
    intro pre rest l' q zs hz hb hl h
    cases l' with
    | nil => simp at hl
    | cons n' l' =>
      obtain ⟨p', h1, h2⟩ := h
      have h0 := hb n (by simp)
      have e : zs = pre ++ enc n ++ (nparts l ++ rest) := by rw [hz]; simp [nparts, List.append_assoc]
      have hg := gv_enc pre (nparts l ++ rest) n h0.1 h0.2
      rw [← e, h1] at hg
      obtain ⟨rfl, rfl⟩ : n' = n ∧ p' = ((pre.length + (enc n).length : Nat) : Int) := by simpa using hg
      have hpl : ((pre.length + (enc n').length : Nat) : Int) = ((pre ++ enc n').length : Int) := by simp
      rw [hpl] at h2
      obtain ⟨rfl, rfl⟩ := ih (pre ++ enc n') rest l' q zs e (fun m hm => hb m (by simp [hm])) (by simpa using hl) h2
      exact ⟨rfl, by simp [nparts, List.append_assoc]⟩
theorem trd_enc (l : List ByteArray) : ∀ (pre rest : List Int) (l' : List ByteArray) (q : Int) (zs : List Int), zs = pre ++ (tparts l ++ rest) → (∀ m ∈ l, m.size ≤ 1048576) → l'.length = l.length → TRd zs (pre.length : Int) l' q → l' = l ∧ q = ((pre ++ tparts l).length : Int) := by
  induction l with
  | nil =>
    intro pre rest l' q zs hz hb hl h
    obtain rfl := List.eq_nil_of_length_eq_zero hl
    have h' : (pre.length : Int) = q := h
    exact ⟨rfl, by simp [tparts, ← h']⟩
  | cons n l ih =>
    intro pre rest l' q zs hz hb hl h
    cases l' with
    | nil => simp at hl
    | cons n' l' =>
      obtain ⟨p', h1, h2⟩ := h
      have h0 := hb n (by simp)
      have e : zs = pre ++ tpart n ++ (tparts l ++ rest) := by rw [hz]; simp [tparts, List.append_assoc]
      have hg := gt_part pre n (tparts l ++ rest) h0
      rw [← e] at hg
      rw [hg, strB] at h1
      obtain ⟨rfl, rfl⟩ : n = n' ∧ ((pre.length + (tpart n).length : Nat) : Int) = p' := by simpa using h1
      have hpl : ((pre.length + (tpart n).length : Nat) : Int) = ((pre ++ tpart n).length : Int) := by simp
      rw [hpl] at h2
      obtain ⟨rfl, rfl⟩ := ih (pre ++ tpart n) rest l' q zs e (fun m hm => hb m (by simp [hm])) (by simpa using hl) h2
      exact ⟨rfl, by simp [tparts, List.append_assoc]⟩
theorem prd_enc (l : List PB) : ∀ (pre rest : List Int) (l' : List PB) (q : Int) (zs : List Int), zs = pre ++ (pparts l ++ rest) → (∀ m ∈ l, m.1.size ≤ 20 ∧ m.2.size ≤ 20) → l'.length = l.length → PRd zs (pre.length : Int) l' q → l' = l ∧ q = ((pre ++ pparts l).length : Int) := by
  induction l with
  | nil =>
    intro pre rest l' q zs hz hb hl h
    obtain rfl := List.eq_nil_of_length_eq_zero hl
    have h' : (pre.length : Int) = q := h
    exact ⟨rfl, by simp [pparts, ← h']⟩
  | cons n l ih =>
    intro pre rest l' q zs hz hb hl h
    cases l' with
    | nil => simp at hl
    | cons n' l' =>
      obtain ⟨p', h1, h2⟩ := h
      have h0 := hb n (by simp)
      have e : zs = pre ++ (tparts [n.1, n.2] ++ (pparts l ++ rest)) := by rw [hz]; simp [pparts, tparts, List.append_assoc]
      obtain ⟨e1, e2⟩ := trd_enc [n.1, n.2] pre (pparts l ++ rest) [n'.1, n'.2] p' zs e (fun m hm => by simp only [List.mem_cons, List.not_mem_nil, or_false] at hm; rcases hm with rfl | rfl <;> omega) rfl h1
      have hn : n' = n := by
        simp only [List.cons.injEq, and_true] at e1
        exact Prod.ext e1.1 e1.2
      subst hn
      rw [e2] at h2
      obtain ⟨rfl, rfl⟩ := ih (pre ++ tparts [n'.1, n'.2]) rest l' q zs (by rw [e, List.append_assoc]) (fun m hm => hb m (by simp [hm])) (by simpa using hl) h2
      exact ⟨rfl, by simp [pparts, tparts, List.append_assoc]⟩
/-- A message as plain data. -/
structure MS where
  kd : Int
  c : Int
  e : Int
  n : Int
  sh : Int
  nu : Int
  st : Int
  k : Int
  ky : ByteArray
  vl : ByteArray
  lo : ByteArray
  hi : ByteArray
  mo : Int
  bk : Bool
  cd : Int
  ps : List PB
  ys : Bool
def MS.bytes (m : MS) : Option (List Int) := mgBytes m.kd m.c m.e m.n m.sh m.nu m.st m.k m.ky m.vl m.lo m.hi m.mo m.bk m.cd m.ps m.ys
/-- What is read of zs as a message, at most K pairs of it. -/
def Trc (K : Int) (zs : List Int) (m : MS) : Prop := ∃ p1 p2 p3 p4 p5 b t y : Int, NRd zs 0 [m.kd, m.c, m.e, m.n, m.sh, m.nu, m.st, m.k] p1 ∧ TRd zs p1 [m.ky, m.vl, m.lo, m.hi] p2 ∧ NRd zs p2 [m.mo, b, m.cd, t] p3 ∧ PRd zs p3 m.ps p4 ∧ (m.ps.length : Int) = max 0 (min t K) ∧ NRd zs p4 [y] p5 ∧ m.bk = decide (b = 1) ∧ m.ys = decide (y = 1)
theorem bit_one (b : Bool) : decide (bit b = 1) = b := by cases b <;> rfl
/-- The bytes of a message are read as that message. -/
theorem trc_bytes {K : Int} (hK : 8 ≤ K) {zs : List Int} {m m' : MS} (h : Trc K zs m) (h' : m'.bytes = some zs) : m = m' := by
  obtain ⟨p1, p2, p3, p4, p5, b, t, y, h1, h2, h3, h4, h5, h6, h7, h8⟩ := h
  obtain ⟨kd, c, e, n, sh, nu, st, k, ky, vl, lo, hi, mo, bk, cd, ps, ys⟩ := m
  obtain ⟨kd', c', e', n', sh', nu', st', k', ky', vl', lo', hi', mo', bk', cd', ps', ys'⟩ := m'
  simp only [MS.bytes, mgBytes] at h'
  simp only at h1 h2 h3 h4 h5 h6 h7 h8
  split at h'
  · rename_i hok
    have hF := mgOk_facts hok
    have hz : zs = mgBy kd' c' e' n' sh' nu' st' k' ky' vl' lo' hi' mo' bk' cd' ps' ys' := (Option.some.inj h').symm
    unfold mgBy at hz
    obtain ⟨e1, e2⟩ := nrd_enc _ [] _ [kd, c, e, n, sh, nu, st, k] p1 zs hz hF.n1 rfl h1
    rw [e2, List.nil_append] at h2
    obtain ⟨e3, e4⟩ := trd_enc _ (nparts [kd', c', e', n', sh', nu', st', k']) _ [ky, vl, lo, hi] p2 zs hz (fun m hm => by have := hF.s1 m hm; omega) rfl h2
    rw [e4] at h3
    obtain ⟨e5, e6⟩ := nrd_enc _ (nparts [kd', c', e', n', sh', nu', st', k'] ++ tparts [ky', vl', lo', hi']) _ [mo, b, cd, t] p3 zs (by rw [hz, List.append_assoc]) (mgN4 hF.hmo hF.hcd hF.hpl) rfl h3
    rw [e6] at h4
    simp only [List.cons.injEq, and_true] at e1 e3 e5
    obtain ⟨f1, f2, f3, f4, f5, f6, f7, f8⟩ := e1
    obtain ⟨g1, g2, g3, g4⟩ := e3
    obtain ⟨i1, i2, i3, i4⟩ := e5
    have hpl := hF.hpl
    have hlen : ps.length = ps'.length := by
      rw [i4] at h5
      omega
    obtain ⟨e7, e8⟩ := prd_enc ps' ((nparts [kd', c', e', n', sh', nu', st', k'] ++ tparts [ky', vl', lo', hi']) ++ nparts [mo', bit bk', cd', (ps'.length : Int)]) (enc (bit ys')) ps p4 zs (by rw [hz]; simp only [List.append_assoc]) hF.hps hlen h4
    rw [e8] at h6
    have hyb := bit_bound ys'
    obtain ⟨e9, _⟩ := nrd_enc [bit ys'] (((nparts [kd', c', e', n', sh', nu', st', k'] ++ tparts [ky', vl', lo', hi']) ++ nparts [mo', bit bk', cd', (ps'.length : Int)]) ++ pparts ps') [] [y] p5 zs (by rw [hz]; simp only [nparts, List.append_assoc, List.append_nil]) (fun m hm => by simp only [List.mem_cons, List.not_mem_nil, or_false] at hm; subst hm; omega) rfl h6
    simp only [List.cons.injEq, and_true] at e9
    subst f1 f2 f3 f4 f5 f6 f7 f8 g1 g2 g3 g4 i1 i3 e7
    rw [i2, bit_one] at h7
    rw [e9, bit_one] at h8
    subst h7 h8
    rfl
  · cases h'
end Go.Proofs.YtbaggkfgnjenoacDoor
/-
  Messages: what is told, what is asked, the stamp.
-/
namespace Go.Proofs.YtbaggkfgnjenoacDoor
open Go.RowKit
set_option linter.unusedVariables false
set_option maxHeartbeats 3200000 in
theorem tellsNothing_any (kd c e n sh nu st k : Int) (ky vl lo hi : ByteArray) (mo : Int) (bk : Bool) (cd : Int) (pa : Option Addr) (pn pc : Nat) (ys : Bool) (w : World) : Calls Tryd.prog 57 #[.agg #[.int .i64 kd, .int .i64 c, .int .i64 e, .int .i64 n, .int .i64 sh, .int .i64 nu, .int .i64 st, .int .i64 k, .string ky, .string vl, .string lo, .string hi, .int .i64 mo, .bool bk, .int .i64 cd, .slice pa pn pc, .bool ys]] w fun r w' => r = .returned (.bool (noT st cd pn)) ∧ Below w.heap.size w w' := by
  have B0 := hid (below_new (o := .cells #[.int .i64 kd, .int .i64 c, .int .i64 e, .int .i64 n, .int .i64 sh, .int .i64 nu, .int .i64 st, .int .i64 k, .string ky, .string vl, .string lo, .string hi, .int .i64 mo, .bool bk, .int .i64 cd, .slice pa pn pc, .bool ys] 31) (w := w) (Below.refl _ _))
  have K0 := hid (Bk.new w 31 [.int .i64 kd, .int .i64 c, .int .i64 e, .int .i64 n, .int .i64 sh, .int .i64 nu, .int .i64 st, .int .i64 k, .string ky, .string vl, .string lo, .string hi, .int .i64 mo, .bool bk, .int .i64 cd, .slice pa pn pc, .bool ys])
  have HV : Hid (noT st cd pn = (decide (st = 0) && (decide (cd = 0) && decide (pn = 0)))) := rfl
  generalize noT st cd pn = z at *
  go_enter Tryd.func57, Tryd.ntmps57
  by_cases h1 : st = 0
  · subst h1
    by_cases h2 : cd = 0
    · subst h2
      by_cases h3 : pn = 0
      · subst h3
        go_wp2
        go_ret
        exact ⟨by rw [HV.out] <;> simp <;> first | assumption | (intros; omega), B0.out⟩
      · skip
        have h4 : ¬ (pn : Int) = 0 := by omega
        have h5 : ((pn : Int) == 0) = false := by simpa using h4
        go_wp2
        go_ret
        exact ⟨by rw [HV.out] <;> simp <;> first | assumption | (intros; omega), B0.out⟩
    · skip
      go_wp2
      go_ret
      exact ⟨by rw [HV.out] <;> simp <;> first | assumption | (intros; omega), B0.out⟩
  · skip
    go_wp2
    go_ret
    exact ⟨by rw [HV.out] <;> simp <;> first | assumption | (intros; omega), B0.out⟩
set_option maxHeartbeats 3200000 in
theorem asksNothing_any (kd c e n sh nu st k : Int) (ky vl lo hi : ByteArray) (mo : Int) (bk : Bool) (cd : Int) (pa : Option Addr) (pn pc : Nat) (ys : Bool) (w : World) : Calls Tryd.prog 59 #[.agg #[.int .i64 kd, .int .i64 c, .int .i64 e, .int .i64 n, .int .i64 sh, .int .i64 nu, .int .i64 st, .int .i64 k, .string ky, .string vl, .string lo, .string hi, .int .i64 mo, .bool bk, .int .i64 cd, .slice pa pn pc, .bool ys]] w fun r w' => r = .returned (.bool (akZ k ky vl lo hi mo bk)) ∧ Below w.heap.size w w' := by
  have B0 := hid (below_new (o := .cells #[.int .i64 kd, .int .i64 c, .int .i64 e, .int .i64 n, .int .i64 sh, .int .i64 nu, .int .i64 st, .int .i64 k, .string ky, .string vl, .string lo, .string hi, .int .i64 mo, .bool bk, .int .i64 cd, .slice pa pn pc, .bool ys] 31) (w := w) (Below.refl _ _))
  have K0 := hid (Bk.new w 31 [.int .i64 kd, .int .i64 c, .int .i64 e, .int .i64 n, .int .i64 sh, .int .i64 nu, .int .i64 st, .int .i64 k, .string ky, .string vl, .string lo, .string hi, .int .i64 mo, .bool bk, .int .i64 cd, .slice pa pn pc, .bool ys])
  have hq := eql_askZ k ky vl lo hi mo bk
  have hg := guard_ask .eql
  go_enter Tryd.func59, Tryd.ntmps59
  go_wp2
  go_ret
  exact ⟨rfl, B0.out⟩
end Go.Proofs.YtbaggkfgnjenoacDoor
/-
  Messages: the stamp.
-/
namespace Go.Proofs.YtbaggkfgnjenoacDoor
open Go.RowKit
set_option linter.unusedVariables false
set_option maxHeartbeats 3200000 in
theorem stampOk_any (kd c e n sh nu st k : Int) (ky vl lo hi : ByteArray) (mo : Int) (bk : Bool) (cd : Int) (pa : Option Addr) (pn pc : Nat) (ys : Bool) (w : World) : Calls Tryd.prog 69 #[.agg #[.int .i64 kd, .int .i64 c, .int .i64 e, .int .i64 n, .int .i64 sh, .int .i64 nu, .int .i64 st, .int .i64 k, .string ky, .string vl, .string lo, .string hi, .int .i64 mo, .bool bk, .int .i64 cd, .slice pa pn pc, .bool ys]] w fun r w' => r = .returned (.bool (stC cd st)) ∧ Below w.heap.size w w' := by
  have B0 := hid (below_new (o := .cells #[.int .i64 kd, .int .i64 c, .int .i64 e, .int .i64 n, .int .i64 sh, .int .i64 nu, .int .i64 st, .int .i64 k, .string ky, .string vl, .string lo, .string hi, .int .i64 mo, .bool bk, .int .i64 cd, .slice pa pn pc, .bool ys] 31) (w := w) (Below.refl _ _))
  have K0 := hid (Bk.new w 31 [.int .i64 kd, .int .i64 c, .int .i64 e, .int .i64 n, .int .i64 sh, .int .i64 nu, .int .i64 st, .int .i64 k, .string ky, .string vl, .string lo, .string hi, .int .i64 mo, .bool bk, .int .i64 cd, .slice pa pn pc, .bool ys])
  by_cases h1 : cd = 0
  · subst h1
    have HV : Hid (stC 0 st = (decide (0 < st) && decide (st ≤ 1099511627775))) := rfl
    by_cases h2 : 0 < st
    · have h3 : 0 ≤ st := by omega
      have C1 : Hid (∀ w, Calls Tryd.prog 40 #[.int .i64 st] w fun e w' => e = .returned (.bool (decide (st ≤ 1099511627775))) ∧ w = w') := fun w => by
        have := isNumberM_any st w
        rwa [decide_eq_true h3, Bool.true_and] at this
      have HW : Hid (stC 0 st = decide (st ≤ 1099511627775)) := by show _ = _; rw [HV.out, decide_eq_true h2, Bool.true_and]
      go_enter Tryd.func69, Tryd.ntmps69
      go_wp2_with fail
      refine (C1.out _).mono ?_
      rintro r w' ⟨rfl, rfl⟩
      go_wp2
      go_ret
      exact ⟨by rw [HW.out]; rfl, B0.out⟩
    · have HW : Hid (stC 0 st = false) := by show _ = false; rw [HV.out, decide_eq_false h2]; rfl
      go_enter Tryd.func69, Tryd.ntmps69
      go_wp2
      go_ret
      exact ⟨by rw [HW.out]; rfl, B0.out⟩
  · have HV : Hid (stC cd st = decide (st = 0)) := by show _ = _; unfold stC; rw [if_neg h1]
    by_cases h2 : st = 0
    · subst h2
      go_enter Tryd.func69, Tryd.ntmps69
      go_wp2
      go_ret
      exact ⟨by rw [HV.out]; simp, B0.out⟩
    · go_enter Tryd.func69, Tryd.ntmps69
      go_wp2
      go_ret
      exact ⟨by rw [HV.out]; simp [h2], B0.out⟩
end Go.Proofs.YtbaggkfgnjenoacDoor
/-
  Messages: small functions of the specification.
-/
namespace Go.Proofs.YtbaggkfgnjenoacDoor
open Go.RowKit
set_option linter.unusedVariables false
theorem specNuOk_any (nu : Int) (w : World) : Calls Tryd.prog 20 #[.int .i64 nu] w fun e w' => e = .returned (.bool (nuOk nu)) ∧ w = w' := by
  by_cases h : 1 ≤ nu
  · have HE : Hid (nuOk nu = decide (nu ≤ 16)) := by show nuOk nu = _; simp [nuOk, h]
    go_enter Tryd.func20, Tryd.ntmps20
    go_wp2
    go_ret
    exact ⟨by rw [HE.out]; rfl, rfl⟩
  · have HE : Hid (nuOk nu = false) := by show nuOk nu = false; simp [nuOk, h]
    go_enter Tryd.func20, Tryd.ntmps20
    go_wp2
    go_ret
    exact ⟨by rw [HE.out]; rfl, rfl⟩
theorem specNumM_any (m : Int) (w : World) : Calls Tryd.prog 24 #[.int .i64 m] w fun e w' => e = .returned (.bool (decide (0 ≤ m) && decide (m ≤ 1099511627775))) ∧ w = w' := by
  by_cases h : 0 ≤ m
  · have HE : Hid ((decide (0 ≤ m) && decide (m ≤ 1099511627775)) = decide (m ≤ 1099511627775)) := by show _ = _; simp [h]
    go_enter Tryd.func24, Tryd.ntmps24
    go_wp2
    go_ret
    exact ⟨by rw [HE.out]; rfl, rfl⟩
  · have HE : Hid ((decide (0 ≤ m) && decide (m ≤ 1099511627775)) = false) := by show _ = false; simp [h]
    go_enter Tryd.func24, Tryd.ntmps24
    go_wp2
    go_ret
    exact ⟨by rw [HE.out]; rfl, rfl⟩
theorem prsOk_nil : prsOk [] = true := rfl
theorem stC_0 (st : Int) : stC 0 st = (decide (1 ≤ st) && decide (st ≤ 1099511627775)) := rfl
theorem stC_no {cd : Int} (h : ¬ cd = 0) (st : Int) : stC cd st = decide (st = 0) := by unfold stC; rw [if_neg h]
end Go.Proofs.YtbaggkfgnjenoacDoor
/-
  MsgOk of the specification at the kind 0.
-/
namespace Go.Proofs.YtbaggkfgnjenoacDoor
open Go.RowKit
set_option linter.unusedVariables false
set_option maxHeartbeats 16000000 in
set_option maxRecDepth 20000 in
theorem specMsgOk_0 (S : Nat → Prop) (ps : List PB) (kd c e n sh nu st k : Int) (ky vl lo hi : ByteArray) (mo : Int) (bk : Bool) (cd : Int) (pa : Option Addr) (pn pc : Nat) (ys : Bool) (w : World) (h : Pr w S (.slice pa pn pc) ps) (hk : ¬ (1 ≤ kd ∧ kd ≤ 7)) : Calls Tryd.prog 6 #[.agg #[.int .i64 kd, .int .i64 c, .int .i64 e, .int .i64 n, .int .i64 sh, .int .i64 nu, .int .i64 st, .int .i64 k, .string ky, .string vl, .string lo, .string hi, .int .i64 mo, .bool bk, .int .i64 cd, .slice pa pn pc, .bool ys]] w fun r w' => r = .returned (.bool (mgOk kd c e n sh nu st (akOk k ky vl lo hi mo bk) (akZ k ky vl lo hi mo bk) cd ps ys)) ∧ Below w.heap.size w w' := by
  have B0 : Hid (Below w.heap.size w ((w.alloc (.cells #[.int .i64 kd, .int .i64 c, .int .i64 e, .int .i64 n, .int .i64 sh, .int .i64 nu, .int .i64 st, .int .i64 k, .string ky, .string vl, .string lo, .string hi, .int .i64 mo, .bool bk, .int .i64 cd, .slice pa pn pc, .bool ys] 31)).alloc (.cells #[.int .i64 0, .string ⟨#[]⟩, .string ⟨#[]⟩, .string ⟨#[]⟩, .string ⟨#[]⟩, .int .i64 0, .bool false] 28))) := below_new (below_new (Below.refl _ _))
  have K0 := hid ((Bk.new w 31 [.int .i64 kd, .int .i64 c, .int .i64 e, .int .i64 n, .int .i64 sh, .int .i64 nu, .int .i64 st, .int .i64 k, .string ky, .string vl, .string lo, .string hi, .int .i64 mo, .bool bk, .int .i64 cd, .slice pa pn pc, .bool ys]).alloc (.cells #[.int .i64 0, .string ⟨#[]⟩, .string ⟨#[]⟩, .string ⟨#[]⟩, .string ⟨#[]⟩, .int .i64 0, .bool false] 28))
  have J0 := hid (Bk.new (w.alloc (.cells #[.int .i64 kd, .int .i64 c, .int .i64 e, .int .i64 n, .int .i64 sh, .int .i64 nu, .int .i64 st, .int .i64 k, .string ky, .string vl, .string lo, .string hi, .int .i64 mo, .bool bk, .int .i64 cd, .slice pa pn pc, .bool ys] 31)) 28 [.int .i64 0, .string ⟨#[]⟩, .string ⟨#[]⟩, .string ⟨#[]⟩, .string ⟨#[]⟩, .int .i64 0, .bool false])
  rw [show (w.alloc (.cells #[.int .i64 kd, .int .i64 c, .int .i64 e, .int .i64 n, .int .i64 sh, .int .i64 nu, .int .i64 st, .int .i64 k, .string ky, .string vl, .string lo, .string hi, .int .i64 mo, .bool bk, .int .i64 cd, .slice pa pn pc, .bool ys] 31)).heap.size = w.heap.size + 1 by simp] at J0
  have HN := hid (Rw.len h).1
  have hcc := (Rw.len h).2
  have H0 := hid h
  clear h
  have C1 := hid (fun w => specTxOk_any c e n w)
  have C2 := hid (fun w => specNuOk_any nu w)
  have C3 := hid (fun w => specAskOk_any k ky vl lo hi mo bk w)
  have C4 := hid (fun w => specNumM_any st w)
  have hq := neq_askZ k ky vl lo hi mo bk
  have hg := guard_ask .neq
  have HV : Hid (mgOk kd c e n sh nu st (akOk k ky vl lo hi mo bk) (akZ k ky vl lo hi mo bk) cd ps ys = (txOk (c, e, n) && (decide (0 ≤ sh) && (decide (sh < 4) && prtOk kd nu st (akOk k ky vl lo hi mo bk) (akZ k ky vl lo hi mo bk) cd ps ys)))) := rfl
  generalize mgOk kd c e n sh nu st (akOk k ky vl lo hi mo bk) (akZ k ky vl lo hi mo bk) cd ps ys = z at *
  generalize akOk k ky vl lo hi mo bk = ak at *
  generalize akZ k ky vl lo hi mo bk = az at *
  generalize txOk (c, e, n) = z1 at *
  clear H0
  rw [prtOk_no hk] at HV
  by_cases hk1 : kd < 1
  · skip
    clear hk
    go_enter Tryd.func6, Tryd.ntmps6
    go_wp2_with fail
    refine (C1.out _).mono ?_
    generalize (w.alloc (.cells #[.int .i64 kd, .int .i64 c, .int .i64 e, .int .i64 n, .int .i64 sh, .int .i64 nu, .int .i64 st, .int .i64 k, .string ky, .string vl, .string lo, .string hi, .int .i64 mo, .bool bk, .int .i64 cd, .slice pa pn pc, .bool ys] 31)).alloc (.cells #[.int .i64 0, .string ⟨#[]⟩, .string ⟨#[]⟩, .string ⟨#[]⟩, .string ⟨#[]⟩, .int .i64 0, .bool false] 28) = U at *
    rintro r w1 ⟨rfl, hb⟩
    have K1 := hid (K0.out.below hb)
    have J1 := hid (J0.out.below hb)
    have B1 := hid (btR B0.out hb)
    clear hb B0 K0 J0 
    have x0 := K1.out.cell (j := 0) rfl
    have x1 := K1.out.cell (j := 1) rfl
    have x2 := K1.out.cell (j := 2) rfl
    have x3 := K1.out.cell (j := 3) rfl
    have x4 := K1.out.cell (j := 4) rfl
    have x5 := K1.out.cell (j := 5) rfl
    have x6 := K1.out.cell (j := 6) rfl
    have x7 := K1.out.cell (j := 7) rfl
    have x8 := K1.out.cell (j := 8) rfl
    have x9 := K1.out.cell (j := 9) rfl
    have x10 := K1.out.cell (j := 10) rfl
    have x11 := K1.out.cell (j := 11) rfl
    have x12 := K1.out.cell (j := 12) rfl
    have x13 := K1.out.cell (j := 13) rfl
    have x14 := K1.out.cell (j := 14) rfl
    have x15 := K1.out.cell (j := 15) rfl
    have x16 := K1.out.cell (j := 16) rfl
    have y0 := J1.out.cell (j := 0) rfl
    have y1 := J1.out.cell (j := 1) rfl
    have y2 := J1.out.cell (j := 2) rfl
    have y3 := J1.out.cell (j := 3) rfl
    have y4 := J1.out.cell (j := 4) rfl
    have y5 := J1.out.cell (j := 5) rfl
    have y6 := J1.out.cell (j := 6) rfl
    cases z1 with
    | false =>
      go_wp2
      go_ret
      exact ⟨by rw [HV.out] <;> simp, B1.out⟩
    | true =>
      by_cases h1 : 0 ≤ sh
      · skip
        by_cases h2 : sh < 4
        · skip
          go_wp2
          go_ret
          exact ⟨by rw [HV.out] <;> simp, B1.out⟩
        · skip
          go_wp2
          go_ret
          exact ⟨by rw [HV.out] <;> simp, B1.out⟩
      · skip
        go_wp2
        go_ret
        exact ⟨by rw [HV.out] <;> simp, B1.out⟩
  · skip
    have hk2 : 7 < kd := by omega
    clear hk
    go_enter Tryd.func6, Tryd.ntmps6
    go_wp2_with fail
    refine (C1.out _).mono ?_
    generalize (w.alloc (.cells #[.int .i64 kd, .int .i64 c, .int .i64 e, .int .i64 n, .int .i64 sh, .int .i64 nu, .int .i64 st, .int .i64 k, .string ky, .string vl, .string lo, .string hi, .int .i64 mo, .bool bk, .int .i64 cd, .slice pa pn pc, .bool ys] 31)).alloc (.cells #[.int .i64 0, .string ⟨#[]⟩, .string ⟨#[]⟩, .string ⟨#[]⟩, .string ⟨#[]⟩, .int .i64 0, .bool false] 28) = U at *
    rintro r w1 ⟨rfl, hb⟩
    have K1 := hid (K0.out.below hb)
    have J1 := hid (J0.out.below hb)
    have B1 := hid (btR B0.out hb)
    clear hb B0 K0 J0 
    have x0 := K1.out.cell (j := 0) rfl
    have x1 := K1.out.cell (j := 1) rfl
    have x2 := K1.out.cell (j := 2) rfl
    have x3 := K1.out.cell (j := 3) rfl
    have x4 := K1.out.cell (j := 4) rfl
    have x5 := K1.out.cell (j := 5) rfl
    have x6 := K1.out.cell (j := 6) rfl
    have x7 := K1.out.cell (j := 7) rfl
    have x8 := K1.out.cell (j := 8) rfl
    have x9 := K1.out.cell (j := 9) rfl
    have x10 := K1.out.cell (j := 10) rfl
    have x11 := K1.out.cell (j := 11) rfl
    have x12 := K1.out.cell (j := 12) rfl
    have x13 := K1.out.cell (j := 13) rfl
    have x14 := K1.out.cell (j := 14) rfl
    have x15 := K1.out.cell (j := 15) rfl
    have x16 := K1.out.cell (j := 16) rfl
    have y0 := J1.out.cell (j := 0) rfl
    have y1 := J1.out.cell (j := 1) rfl
    have y2 := J1.out.cell (j := 2) rfl
    have y3 := J1.out.cell (j := 3) rfl
    have y4 := J1.out.cell (j := 4) rfl
    have y5 := J1.out.cell (j := 5) rfl
    have y6 := J1.out.cell (j := 6) rfl
    cases z1 with
    | false =>
      go_wp2
      go_ret
      exact ⟨by rw [HV.out] <;> simp, B1.out⟩
    | true =>
      by_cases h1 : 0 ≤ sh
      · skip
        by_cases h2 : sh < 4
        · skip
          go_wp2
          go_ret
          exact ⟨by rw [HV.out] <;> simp, B1.out⟩
        · skip
          go_wp2
          go_ret
          exact ⟨by rw [HV.out] <;> simp, B1.out⟩
      · skip
        go_wp2
        go_ret
        exact ⟨by rw [HV.out] <;> simp, B1.out⟩
end Go.Proofs.YtbaggkfgnjenoacDoor
