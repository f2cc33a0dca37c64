/-
  The ranges of the shards: what PartOf answers, the program's and the specification's.
-/
import Derived.Test.YtbfgjadonilonaaStrs
import Derived.Test.YtbfgjadonilonaaTwo
namespace Go.Proofs.Ytbfgjadonilonaa
open Go.RowKit
def pOk (ss : List ByteArray) (i : Int) : Bool := sOk ss && decide (0 ≤ i) && decide (i ≤ ss.length)
def pLo (ss : List ByteArray) (i : Int) : ByteArray := if pOk ss i then (if i = 0 then ⟨#[]⟩ else ss[i.toNat - 1]?.getD ⟨#[]⟩) else ⟨#[]⟩
def pHi (ss : List ByteArray) (i : Int) : ByteArray := if pOk ss i then ss[i.toNat]?.getD ⟨#[]⟩ else ⟨#[]⟩
theorem below_sets {w v : World} {x y : Value} {o : Obj} (h : Below w.heap.size w v) : Below w.heap.size w (((v.setCell ⟨w.heap.size, 0, none⟩ x).setCell ⟨w.heap.size, 1, none⟩ y).alloc o) :=
  Below.alloc (Below.setCell (p := ⟨w.heap.size, 1, none⟩) (Below.setCell (p := ⟨w.heap.size, 0, none⟩) h (Nat.le_refl _) x) (Nat.le_refl _) y) (by simp [World.setCell]; exact h.size) o
set_option maxHeartbeats 4000000 in
theorem implPartOf_any (a : Option Addr) (n c : Nat) (ss : List ByteArray) (i : Int) (w : World) (h : Sd w a n c ss) (hi0 : -9223372036854775808 ≤ i) (hi1 : i ≤ 9223372036854775807) :
    Calls Try.prog 16 #[.slice a n c, .int .i64 i] w fun e w' => e = .returned (.tuple #[.agg #[.string (pLo ss i), .string (pHi ss i)], .bool (pOk ss i)]) ∧ Below w.heap.size w w' := by
  have HN : Hid (n = ss.length) := h.1
  have H0 := hid h
  clear h
  have HF : Hid (pOk ss i = false → Value.tuple #[.agg #[.string (pLo ss i), .string (pHi ss i)], .bool (pOk ss i)] = .tuple #[rng ⟨#[]⟩ ⟨#[]⟩, .bool false]) := fun h => by simp [pLo, pHi, h, rng]
  have HD : Hid (pOk ss i = (sOk ss && decide (0 ≤ i) && decide (i ≤ ss.length))) := rfl
  go_enter Try.func16, Try.ntmps16
  go_wp2_with fail
  refine (implSplitsOk_any a n c ss _ (H0.out.kept (below_alloc' _ _))).mono ?_
  have B0 := hid (Blk.new w ⟨#[]⟩ ⟨#[]⟩)
  have L0 := hid (below_alloc' w (Obj.cells #[Value.string ⟨#[]⟩, Value.string ⟨#[]⟩] 30))
  generalize w.alloc (Obj.cells #[Value.string ⟨#[]⟩, Value.string ⟨#[]⟩] 30) = v0 at *
  rintro e v1 ⟨rfl, hb1⟩
  have B1 := hid (B0.out.kept hb1)
  have L1 := hid (L0.out.trans (hb1.mono L0.out.size))
  have H1 := hid (H0.out.kept L1.out)
  clear B0 L0 H0 hb1 v0
  obtain ⟨r0, r1, r2, r3⟩ := B1.out.facts
  have hlt := B1.out.lt
  have hne : ¬ w.heap.size = v1.heap.size := by omega
  cases h1 : sOk ss
  · have HZ : Hid (pOk ss i = false) := by show pOk ss i = false; rw [HD.out, h1]; rfl
    go_wp2
    try simp only [Exit.inBlock, Exit.then]
    refine bodyPost_ret (v := .tuple #[rng ⟨#[]⟩ ⟨#[]⟩, .bool false]) ?_ rfl ?_
    · exact results_rng_bool rfl _ _ _ rfl rfl (by go_simp) (by go_simp)
    · exact ⟨by rw [HF.out HZ.out], (L1.out.setCell (Nat.le_refl _) _).setCell (Nat.le_refl _) _⟩
  · by_cases h2 : i < 0
    · have HZ : Hid (pOk ss i = false) := by show pOk ss i = false; rw [HD.out, decide_eq_false (show ¬ 0 ≤ i by omega)]; simp
      go_wp2
      try simp only [Exit.inBlock, Exit.then]
      refine bodyPost_ret (v := .tuple #[rng ⟨#[]⟩ ⟨#[]⟩, .bool false]) ?_ rfl ?_
      · exact results_rng_bool rfl _ _ _ rfl rfl (by go_simp) (by go_simp)
      · exact ⟨by rw [HF.out HZ.out], (L1.out.setCell (Nat.le_refl _) _).setCell (Nat.le_refl _) _⟩
    · by_cases h3 : (n : Int) < i
      · have HZ : Hid (pOk ss i = false) := by show pOk ss i = false; rw [HD.out, decide_eq_false (show ¬ i ≤ (ss.length : Int) by rw [← HN.out]; omega)]; simp
        go_wp2
        try simp only [Exit.inBlock, Exit.then]
        refine bodyPost_ret (v := .tuple #[rng ⟨#[]⟩ ⟨#[]⟩, .bool false]) ?_ rfl ?_
        · exact results_rng_bool rfl _ _ _ rfl rfl (by go_simp) (by go_simp)
        · exact ⟨by rw [HF.out HZ.out], (L1.out.setCell (Nat.le_refl _) _).setCell (Nat.le_refl _) _⟩
      · have HZ : Hid (pOk ss i = true) := by
          show pOk ss i = true
          rw [HD.out, h1, decide_eq_true (show 0 ≤ i by omega), decide_eq_true (show i ≤ (ss.length : Int) by rw [← HN.out]; omega)]; rfl
        obtain ⟨k, rfl⟩ := Int.eq_ofNat_of_zero_le (show 0 ≤ i by omega)
        have HP : Hid (Value.tuple #[.agg #[.string (pLo ss k), .string (pHi ss k)], .bool (pOk ss k)] = .tuple #[rng (if k = 0 then ⟨#[]⟩ else ss[k - 1]?.getD ⟨#[]⟩) (ss[k]?.getD ⟨#[]⟩), .bool true]) := by
          show Value.tuple #[.agg #[.string (pLo ss k), .string (pHi ss k)], .bool (pOk ss k)] = .tuple #[rng (if k = 0 then ⟨#[]⟩ else ss[k - 1]?.getD ⟨#[]⟩) (ss[k]?.getD ⟨#[]⟩), .bool true]
          simp [pLo, pHi, HZ.out, rng]
        clear h2 HF HD
        have hk : k ≤ n := by omega
        have hnm : n ≤ 3 := by have := h1; simp [sOk] at this; rw [HN.out]; exact this.1
        have HE : Hid (n ≤ k → ss[k]?.getD ⟨#[]⟩ = ⟨#[]⟩) := fun h => by rw [List.getElem?_eq_none (by rw [← HN.out]; exact h)]; rfl
        have hnc := H1.out.2.1
        have hcm := H1.out.2.2.1
        have hcell := H1.out.2.2.2.2
        clear H1 h3 hi0 hi1
        cases k with
        | zero =>
          by_cases h4 : 0 < n
          · obtain ⟨b, off, rfl, hbw, hcell⟩ := hcell h4
            have hc0 := hcell 0 h4
            rw [Nat.add_zero] at hc0
            have h4' : (0 : Int) < (n : Int) := by omega
            clear hcell
            generalize ss[0]?.getD ⟨#[]⟩ = hi at *
            go_wp2
            try simp only [Exit.inBlock, Exit.then]
            refine bodyPost_ret (v := .tuple #[rng ⟨#[]⟩ hi, .bool true]) ?_ rfl ?_
            · exact results_rng_bool rfl _ _ _ rfl rfl (by go_simp) (by go_simp)
            · exact ⟨by rw [HP.out]; rfl, below_sets L1.out⟩
          · have h4' : ¬ (0 : Int) < (n : Int) := by omega
            have HE0 := hid (HE.out (by omega))
            clear hcell
            go_wp2
            try simp only [Exit.inBlock, Exit.then]
            refine bodyPost_ret (v := .tuple #[rng ⟨#[]⟩ ⟨#[]⟩, .bool true]) ?_ rfl ?_
            · exact results_rng_bool rfl _ _ _ rfl rfl (by go_simp) (by go_simp)
            · exact ⟨by rw [HP.out, HE0.out]; rfl, below_sets L1.out⟩
        | succ j =>
          obtain ⟨b, off, rfl, hbw, hcell⟩ := hcell (by omega)
          have hcj := hcell j (by omega)
          have hj0 : (0 : Int) < (j : Int) + 1 := by omega
          have hjn : (j : Int) < (n : Int) := by omega
          by_cases h4 : j + 1 < n
          · have hc0 := hcell (j + 1) h4
            have h4' : (j : Int) + 1 < (n : Int) := by omega
            clear hcell
            rw [Nat.add_sub_cancel] at HP
            generalize ss[j + 1]?.getD ⟨#[]⟩ = hi at *
            generalize ss[j]?.getD ⟨#[]⟩ = lo at *
            go_wp2
            try simp only [Exit.inBlock, Exit.then]
            refine bodyPost_ret (v := .tuple #[rng lo hi, .bool true]) ?_ rfl ?_
            · exact results_rng_bool rfl _ _ _ rfl rfl (by go_simp) (by go_simp)
            · exact ⟨by rw [HP.out]; rfl, below_sets L1.out⟩
          · have h4' : ¬ (j : Int) + 1 < (n : Int) := by omega
            have HE0 := hid (HE.out (by omega))
            clear hcell
            rw [Nat.add_sub_cancel] at HP
            generalize ss[j]?.getD ⟨#[]⟩ = lo at *
            go_wp2
            try simp only [Exit.inBlock, Exit.then]
            refine bodyPost_ret (v := .tuple #[rng lo ⟨#[]⟩, .bool true]) ?_ rfl ?_
            · exact results_rng_bool rfl _ _ _ rfl rfl (by go_simp) (by go_simp)
            · exact ⟨by rw [HP.out, HE0.out]; rfl, below_sets L1.out⟩
set_option maxHeartbeats 4000000 in
theorem specPartOf_any (a : Option Addr) (n c : Nat) (ss : List ByteArray) (i : Int) (w : World) (h : Sd w a n c ss) (hi0 : -9223372036854775808 ≤ i) (hi1 : i ≤ 9223372036854775807) :
    Calls Try.prog 15 #[.slice a n c, .int .i64 i] w fun e w' => e = .returned (.tuple #[.agg #[.string (pLo ss i), .string (pHi ss i)], .bool (pOk ss i)]) ∧ Below w.heap.size w w' := by
  have HN : Hid (n = ss.length) := h.1
  have H0 := hid h
  clear h
  have HF : Hid (pOk ss i = false → Value.tuple #[.agg #[.string (pLo ss i), .string (pHi ss i)], .bool (pOk ss i)] = .tuple #[rng ⟨#[]⟩ ⟨#[]⟩, .bool false]) := fun h => by simp [pLo, pHi, h, rng]
  have HD : Hid (pOk ss i = (sOk ss && decide (0 ≤ i) && decide (i ≤ ss.length))) := rfl
  go_enter Try.func15, Try.ntmps15
  go_wp2_with fail
  refine (specSplitsOk_any a n c ss _ (H0.out.kept (below_alloc' _ _))).mono ?_
  have B0 := hid (Blk.new w ⟨#[]⟩ ⟨#[]⟩)
  have L0 := hid (below_alloc' w (Obj.cells #[Value.string ⟨#[]⟩, Value.string ⟨#[]⟩] 30))
  generalize w.alloc (Obj.cells #[Value.string ⟨#[]⟩, Value.string ⟨#[]⟩] 30) = v0 at *
  rintro e v1 ⟨rfl, hb1⟩
  have B1 := hid (B0.out.kept hb1)
  have L1 := hid (L0.out.trans (hb1.mono L0.out.size))
  have H1 := hid (H0.out.kept L1.out)
  clear B0 L0 H0 hb1 v0
  obtain ⟨r0, r1, r2, r3⟩ := B1.out.facts
  have hlt := B1.out.lt
  have hne : ¬ w.heap.size = v1.heap.size := by omega
  cases h1 : sOk ss
  · have HZ : Hid (pOk ss i = false) := by show pOk ss i = false; rw [HD.out, h1]; rfl
    go_wp2
    try simp only [Exit.inBlock, Exit.then]
    refine bodyPost_ret (v := .tuple #[rng ⟨#[]⟩ ⟨#[]⟩, .bool false]) ?_ rfl ?_
    · exact results_rng_bool rfl _ _ _ rfl rfl (by go_simp) (by go_simp)
    · exact ⟨by rw [HF.out HZ.out], (L1.out.setCell (Nat.le_refl _) _).setCell (Nat.le_refl _) _⟩
  · by_cases h2 : i < 0
    · have HZ : Hid (pOk ss i = false) := by show pOk ss i = false; rw [HD.out, decide_eq_false (show ¬ 0 ≤ i by omega)]; simp
      go_wp2
      try simp only [Exit.inBlock, Exit.then]
      refine bodyPost_ret (v := .tuple #[rng ⟨#[]⟩ ⟨#[]⟩, .bool false]) ?_ rfl ?_
      · exact results_rng_bool rfl _ _ _ rfl rfl (by go_simp) (by go_simp)
      · exact ⟨by rw [HF.out HZ.out], (L1.out.setCell (Nat.le_refl _) _).setCell (Nat.le_refl _) _⟩
    · by_cases h3 : (n : Int) < i
      · have HZ : Hid (pOk ss i = false) := by show pOk ss i = false; rw [HD.out, decide_eq_false (show ¬ i ≤ (ss.length : Int) by rw [← HN.out]; omega)]; simp
        go_wp2
        try simp only [Exit.inBlock, Exit.then]
        refine bodyPost_ret (v := .tuple #[rng ⟨#[]⟩ ⟨#[]⟩, .bool false]) ?_ rfl ?_
        · exact results_rng_bool rfl _ _ _ rfl rfl (by go_simp) (by go_simp)
        · exact ⟨by rw [HF.out HZ.out], (L1.out.setCell (Nat.le_refl _) _).setCell (Nat.le_refl _) _⟩
      · have HZ : Hid (pOk ss i = true) := by
          show pOk ss i = true
          rw [HD.out, h1, decide_eq_true (show 0 ≤ i by omega), decide_eq_true (show i ≤ (ss.length : Int) by rw [← HN.out]; omega)]; rfl
        obtain ⟨k, rfl⟩ := Int.eq_ofNat_of_zero_le (show 0 ≤ i by omega)
        have HP : Hid (Value.tuple #[.agg #[.string (pLo ss k), .string (pHi ss k)], .bool (pOk ss k)] = .tuple #[rng (if k = 0 then ⟨#[]⟩ else ss[k - 1]?.getD ⟨#[]⟩) (ss[k]?.getD ⟨#[]⟩), .bool true]) := by
          show Value.tuple #[.agg #[.string (pLo ss k), .string (pHi ss k)], .bool (pOk ss k)] = .tuple #[rng (if k = 0 then ⟨#[]⟩ else ss[k - 1]?.getD ⟨#[]⟩) (ss[k]?.getD ⟨#[]⟩), .bool true]
          simp [pLo, pHi, HZ.out, rng]
        clear h2 HF HD
        have hk : k ≤ n := by omega
        have hnm : n ≤ 3 := by have := h1; simp [sOk] at this; rw [HN.out]; exact this.1
        have HE : Hid (n ≤ k → ss[k]?.getD ⟨#[]⟩ = ⟨#[]⟩) := fun h => by rw [List.getElem?_eq_none (by rw [← HN.out]; exact h)]; rfl
        have hnc := H1.out.2.1
        have hcm := H1.out.2.2.1
        have hcell := H1.out.2.2.2.2
        clear H1 h3 hi0 hi1
        cases k with
        | zero =>
          by_cases h4 : 0 < n
          · obtain ⟨b, off, rfl, hbw, hcell⟩ := hcell h4
            have hc0 := hcell 0 h4
            rw [Nat.add_zero] at hc0
            have h4' : (0 : Int) < (n : Int) := by omega
            clear hcell
            generalize ss[0]?.getD ⟨#[]⟩ = hi at *
            go_wp2
            try simp only [Exit.inBlock, Exit.then]
            refine bodyPost_ret (v := .tuple #[rng ⟨#[]⟩ hi, .bool true]) ?_ rfl ?_
            · exact results_rng_bool rfl _ _ _ rfl rfl (by go_simp) (by go_simp)
            · exact ⟨by rw [HP.out]; rfl, below_sets L1.out⟩
          · have h4' : ¬ (0 : Int) < (n : Int) := by omega
            have HE0 := hid (HE.out (by omega))
            clear hcell
            go_wp2
            try simp only [Exit.inBlock, Exit.then]
            refine bodyPost_ret (v := .tuple #[rng ⟨#[]⟩ ⟨#[]⟩, .bool true]) ?_ rfl ?_
            · exact results_rng_bool rfl _ _ _ rfl rfl (by go_simp) (by go_simp)
            · exact ⟨by rw [HP.out, HE0.out]; rfl, below_sets L1.out⟩
        | succ j =>
          obtain ⟨b, off, rfl, hbw, hcell⟩ := hcell (by omega)
          have hcj := hcell j (by omega)
          have hj0 : (0 : Int) < (j : Int) + 1 := by omega
          have hjn : (j : Int) < (n : Int) := by omega
          by_cases h4 : j + 1 < n
          · have hc0 := hcell (j + 1) h4
            have h4' : (j : Int) + 1 < (n : Int) := by omega
            clear hcell
            rw [Nat.add_sub_cancel] at HP
            generalize ss[j + 1]?.getD ⟨#[]⟩ = hi at *
            generalize ss[j]?.getD ⟨#[]⟩ = lo at *
            go_wp2
            try simp only [Exit.inBlock, Exit.then]
            refine bodyPost_ret (v := .tuple #[rng lo hi, .bool true]) ?_ rfl ?_
            · exact results_rng_bool rfl _ _ _ rfl rfl (by go_simp) (by go_simp)
            · exact ⟨by rw [HP.out]; rfl, below_sets L1.out⟩
          · have h4' : ¬ (j : Int) + 1 < (n : Int) := by omega
            have HE0 := hid (HE.out (by omega))
            clear hcell
            rw [Nat.add_sub_cancel] at HP
            generalize ss[j]?.getD ⟨#[]⟩ = lo at *
            go_wp2
            try simp only [Exit.inBlock, Exit.then]
            refine bodyPost_ret (v := .tuple #[rng lo ⟨#[]⟩, .bool true]) ?_ rfl ?_
            · exact results_rng_bool rfl _ _ _ rfl rfl (by go_simp) (by go_simp)
            · exact ⟨by rw [HP.out, HE0.out]; rfl, below_sets L1.out⟩
end Go.Proofs.Ytbfgjadonilonaa
