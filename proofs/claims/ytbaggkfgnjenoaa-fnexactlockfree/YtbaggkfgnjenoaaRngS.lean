/-
  The range that two ranges have in common: the specification's function.
-/
import Derived.Test.YtbaggkfgnjenoaaRng3
namespace Go.Proofs.Ytbaggkfgnjenoaa
open Go.RowKit

theorem Blk.set0 {w : World} {g : Nat} {lo hi x : ByteArray} (h : Blk w g lo hi) : Blk (w.setCell ⟨g, 0, none⟩ (.string x)) g x hi := by
  unfold Blk at h ⊢
  simp [World.setCell, Array.getElem?_modify, h]
theorem Blk.set1 {w : World} {g : Nat} {lo hi x : ByteArray} (h : Blk w g lo hi) : Blk (w.setCell ⟨g, 1, none⟩ (.string x)) g lo x := by
  unfold Blk at h ⊢
  simp [World.setCell, Array.getElem?_modify, h]
theorem Blk.other {w : World} {g g' o : Nat} {lo hi : ByteArray} {x : Value} (h : Blk w g lo hi) (hne : g ≠ g') : Blk (w.setCell ⟨g', o, none⟩ x) g lo hi := (Below.heap_setCell w ⟨g', o, none⟩ x g hne).trans h
theorem Trio.lo {w v : World} {la ha lb hb x : ByteArray} (T : Trio w v la ha lb hb) : Trio w (v.setCell ⟨w.heap.size, 0, none⟩ (.string x)) x ha lb hb :=
  ⟨T.bel.setCell (p := ⟨w.heap.size, 0, none⟩) (Nat.le_refl _) _, T.a.set0, T.b.other (by omega), T.r.other (by omega)⟩
theorem Trio.hi {w v : World} {la ha lb hb x : ByteArray} (T : Trio w v la ha lb hb) : Trio w (v.setCell ⟨w.heap.size, 1, none⟩ (.string x)) la x lb hb :=
  ⟨T.bel.setCell (p := ⟨w.heap.size, 1, none⟩) (Nat.le_refl _) _, T.a.set1, T.b.other (by omega), T.r.other (by omega)⟩
set_option maxHeartbeats 8000000 in
theorem specRangeBoth_any (la ha lb hb : ByteArray) (w : World) : Calls Try.prog 119 #[rng la ha, rng lb hb] w fun e w' => e = .returned (.tuple #[rng (bLo la ha lb hb) (bHi la ha lb hb), .bool (bth la ha lb hb)]) ∧ Below w.heap.size w w' := by
  show Calls Try.prog 119 #[.agg #[.string la, .string ha], .agg #[.string lb, .string hb]] w _
  have HE : Hid (bth la ha lb hb = (rOk la ha && rOk lb hb && rOk (mxl la lb) (lsr ha hb))) := rfl
  have HF : Hid (bth la ha lb hb = false → Value.tuple #[rng (bLo la ha lb hb) (bHi la ha lb hb), .bool (bth la ha lb hb)] = .tuple #[rng ⟨#[]⟩ ⟨#[]⟩, .bool false]) := fun h => by simp [bLo, bHi, h]
  have HT : Hid (bth la ha lb hb = true → Value.tuple #[rng (bLo la ha lb hb) (bHi la ha lb hb), .bool (bth la ha lb hb)] = .tuple #[rng (mxl la lb) (lsr ha hb), .bool true]) := fun h => by simp [bLo, bHi, h]
  have T0 := hid (Trio.new w la ha lb hb)
  go_enter Try.func119, Try.ntmps119
  go_wp2_with fail
  refine (specRangeOk_any la ha _).mono ?_
  generalize ((w.alloc (.cells #[.string la, .string ha] 29)).alloc (.cells #[.string lb, .string hb] 29)).alloc (.cells #[.string ⟨#[]⟩, .string ⟨#[]⟩] 29) = v0 at T0 ⊢
  rintro e v1 ⟨rfl, hb1⟩
  have T1 := hid (T0.out.step hb1)
  clear T0 hb1 v0
  obtain ⟨a0, a1, _, _⟩ := T1.out.a.facts
  obtain ⟨b0, b1, _, _⟩ := T1.out.b.facts
  obtain ⟨r0, r1, r2, r3⟩ := T1.out.r.facts
  cases h1 : rOk la ha
  · rw [h1] at HE
    go_wp2
    try simp only [Exit.inBlock, Exit.then]
    refine bodyPost_ret (v := .tuple #[rng ⟨#[]⟩ ⟨#[]⟩, .bool false]) ?_ rfl ?_
    · exact results_rng_bool rfl _ _ _ rfl rfl (by go_simp) (by go_simp)
    · exact ⟨by rw [HF.out (by rw [HE.out]; rfl)], (T1.out.bel.setCell (by simp; omega) _).setCell (by simp; omega) _⟩
  · rw [h1] at HE
    go_wp2_with fail
    refine (specRangeOk_any lb hb _).mono ?_
    rintro e v2 ⟨rfl, hb2⟩
    have T2 := hid (T1.out.step hb2)
    clear T1 hb2 a0 a1 b0 b1 r0 r1 r2 r3
    obtain ⟨a0, a1, a2, a3⟩ := T2.out.a.facts
    obtain ⟨b0, b1, _, _⟩ := T2.out.b.facts
    obtain ⟨r0, r1, r2, r3⟩ := T2.out.r.facts
    cases h2 : rOk lb hb
    · rw [h2] at HE
      go_wp2
      try simp only [Exit.inBlock, Exit.then]
      refine bodyPost_ret (v := .tuple #[rng ⟨#[]⟩ ⟨#[]⟩, .bool false]) ?_ rfl ?_
      · exact results_rng_bool rfl _ _ _ rfl rfl (by go_simp) (by go_simp)
      · exact ⟨by rw [HF.out (by rw [HE.out]; rfl)], (T2.out.bel.setCell (by simp; omega) _).setCell (by simp; omega) _⟩
    · rw [h2] at HE
      rcases tri la lb with ⟨t1, t2, t3, t4⟩ | rfl | ⟨t1, t2, t3, t4⟩
      · have HM : mxl la lb = lb := by simp [mxl, t1]
        by_cases k1 : ha.toList = []
        · have HY : lsr ha hb = hb := if_pos k1
          go_wp2_with fail
          refine (specRangeOk_any lb hb _).mono ?_
          rintro e v5 ⟨rfl, hb5⟩
          have T5 := hid (T2.out.lo.hi.step hb5)
          clear hb5
          obtain ⟨a0, a1, a2, a3⟩ := T5.out.a.facts
          obtain ⟨r0, r1, r2, r3⟩ := T5.out.r.facts
          cases h5 : rOk lb hb
          · rw [HM, HY, h5] at HE
            go_wp2
            try simp only [Exit.inBlock, Exit.then]
            refine bodyPost_ret (v := .tuple #[rng ⟨#[]⟩ ⟨#[]⟩, .bool false]) ?_ rfl ?_
            · exact results_rng_bool rfl _ _ _ rfl rfl (by go_simp) (by go_simp)
            · exact ⟨by rw [HF.out (by rw [HE.out]; rfl)], (T5.out.bel.setCell (by simp; omega) _).setCell (by simp; omega) _⟩
          · rw [HM, HY, h5] at HE
            rw [HM, HY] at HT
            go_wp2
            try simp only [Exit.inBlock, Exit.then]
            refine bodyPost_ret (v := .tuple #[rng lb hb, .bool true]) ?_ rfl ?_
            · exact results_rng_bool rfl _ _ _ rfl rfl (by go_simp) (by go_simp)
            · exact ⟨by rw [HT.out (by rw [HE.out]; rfl)], (T5.out.bel.setCell (by simp; omega) _).setCell (by simp; omega) _⟩
        · have k2 : ha.toList.isEmpty = false := by simpa using k1
          by_cases k3 : hb.toList = []
          · have HY : lsr ha hb = ha := by unfold lsr; rw [if_neg k1, if_pos (by simp [ahd, k3])]
            go_wp2_with fail
            refine (specRangeOk_any lb ha _).mono ?_
            rintro e v5 ⟨rfl, hb5⟩
            have T5 := hid (T2.out.lo.step hb5)
            clear hb5
            obtain ⟨a0, a1, a2, a3⟩ := T5.out.a.facts
            obtain ⟨r0, r1, r2, r3⟩ := T5.out.r.facts
            cases h5 : rOk lb ha
            · rw [HM, HY, h5] at HE
              go_wp2
              try simp only [Exit.inBlock, Exit.then]
              refine bodyPost_ret (v := .tuple #[rng ⟨#[]⟩ ⟨#[]⟩, .bool false]) ?_ rfl ?_
              · exact results_rng_bool rfl _ _ _ rfl rfl (by go_simp) (by go_simp)
              · exact ⟨by rw [HF.out (by rw [HE.out]; rfl)], (T5.out.bel.setCell (by simp; omega) _).setCell (by simp; omega) _⟩
            · rw [HM, HY, h5] at HE
              rw [HM, HY] at HT
              go_wp2
              try simp only [Exit.inBlock, Exit.then]
              refine bodyPost_ret (v := .tuple #[rng lb ha, .bool true]) ?_ rfl ?_
              · exact results_rng_bool rfl _ _ _ rfl rfl (by go_simp) (by go_simp)
              · exact ⟨by rw [HT.out (by rw [HE.out]; rfl)], (T5.out.bel.setCell (by simp; omega) _).setCell (by simp; omega) _⟩
          · have k4 : hb.toList.isEmpty = false := by simpa using k3
            cases k5 : Op.bytesLess hb.toList ha.toList
            · have HY : lsr ha hb = ha := by
                unfold lsr
                rw [if_neg k1]
                rcases tri ha hb with t | t | t
                · rw [if_pos (by simp [ahd, t.1])]
                · subst t; split <;> rfl
                · rw [t.2.1] at k5; cases k5
              go_wp2_with fail
              refine (specRangeOk_any lb ha _).mono ?_
              rintro e v5 ⟨rfl, hb5⟩
              have T5 := hid (T2.out.lo.step hb5)
              clear hb5
              obtain ⟨a0, a1, a2, a3⟩ := T5.out.a.facts
              obtain ⟨r0, r1, r2, r3⟩ := T5.out.r.facts
              cases h5 : rOk lb ha
              · rw [HM, HY, h5] at HE
                go_wp2
                try simp only [Exit.inBlock, Exit.then]
                refine bodyPost_ret (v := .tuple #[rng ⟨#[]⟩ ⟨#[]⟩, .bool false]) ?_ rfl ?_
                · exact results_rng_bool rfl _ _ _ rfl rfl (by go_simp) (by go_simp)
                · exact ⟨by rw [HF.out (by rw [HE.out]; rfl)], (T5.out.bel.setCell (by simp; omega) _).setCell (by simp; omega) _⟩
              · rw [HM, HY, h5] at HE
                rw [HM, HY] at HT
                go_wp2
                try simp only [Exit.inBlock, Exit.then]
                refine bodyPost_ret (v := .tuple #[rng lb ha, .bool true]) ?_ rfl ?_
                · exact results_rng_bool rfl _ _ _ rfl rfl (by go_simp) (by go_simp)
                · exact ⟨by rw [HT.out (by rw [HE.out]; rfl)], (T5.out.bel.setCell (by simp; omega) _).setCell (by simp; omega) _⟩
            · have HY : lsr ha hb = hb := by unfold lsr; rw [if_neg k1, if_neg (by simp [ahd, k3, less_asymm _ _ k5])]
              go_wp2_with fail
              refine (specRangeOk_any lb hb _).mono ?_
              rintro e v5 ⟨rfl, hb5⟩
              have T5 := hid (T2.out.lo.hi.step hb5)
              clear hb5
              obtain ⟨a0, a1, a2, a3⟩ := T5.out.a.facts
              obtain ⟨r0, r1, r2, r3⟩ := T5.out.r.facts
              cases h5 : rOk lb hb
              · rw [HM, HY, h5] at HE
                go_wp2
                try simp only [Exit.inBlock, Exit.then]
                refine bodyPost_ret (v := .tuple #[rng ⟨#[]⟩ ⟨#[]⟩, .bool false]) ?_ rfl ?_
                · exact results_rng_bool rfl _ _ _ rfl rfl (by go_simp) (by go_simp)
                · exact ⟨by rw [HF.out (by rw [HE.out]; rfl)], (T5.out.bel.setCell (by simp; omega) _).setCell (by simp; omega) _⟩
              · rw [HM, HY, h5] at HE
                rw [HM, HY] at HT
                go_wp2
                try simp only [Exit.inBlock, Exit.then]
                refine bodyPost_ret (v := .tuple #[rng lb hb, .bool true]) ?_ rfl ?_
                · exact results_rng_bool rfl _ _ _ rfl rfl (by go_simp) (by go_simp)
                · exact ⟨by rw [HT.out (by rw [HE.out]; rfl)], (T5.out.bel.setCell (by simp; omega) _).setCell (by simp; omega) _⟩
      · have t1 := less_irrefl la.toList
        have HM : mxl la la = la := by simp [mxl, t1]
        by_cases k1 : ha.toList = []
        · have HY : lsr ha hb = hb := if_pos k1
          go_wp2_with fail
          refine (specRangeOk_any la hb _).mono ?_
          rintro e v5 ⟨rfl, hb5⟩
          have T5 := hid (T2.out.hi.step hb5)
          clear hb5
          obtain ⟨a0, a1, a2, a3⟩ := T5.out.a.facts
          obtain ⟨r0, r1, r2, r3⟩ := T5.out.r.facts
          cases h5 : rOk la hb
          · rw [HM, HY, h5] at HE
            go_wp2
            try simp only [Exit.inBlock, Exit.then]
            refine bodyPost_ret (v := .tuple #[rng ⟨#[]⟩ ⟨#[]⟩, .bool false]) ?_ rfl ?_
            · exact results_rng_bool rfl _ _ _ rfl rfl (by go_simp) (by go_simp)
            · exact ⟨by rw [HF.out (by rw [HE.out]; rfl)], (T5.out.bel.setCell (by simp; omega) _).setCell (by simp; omega) _⟩
          · rw [HM, HY, h5] at HE
            rw [HM, HY] at HT
            go_wp2
            try simp only [Exit.inBlock, Exit.then]
            refine bodyPost_ret (v := .tuple #[rng la hb, .bool true]) ?_ rfl ?_
            · exact results_rng_bool rfl _ _ _ rfl rfl (by go_simp) (by go_simp)
            · exact ⟨by rw [HT.out (by rw [HE.out]; rfl)], (T5.out.bel.setCell (by simp; omega) _).setCell (by simp; omega) _⟩
        · have k2 : ha.toList.isEmpty = false := by simpa using k1
          by_cases k3 : hb.toList = []
          · have HY : lsr ha hb = ha := by unfold lsr; rw [if_neg k1, if_pos (by simp [ahd, k3])]
            go_wp2_with fail
            refine (specRangeOk_any la ha _).mono ?_
            rintro e v5 ⟨rfl, hb5⟩
            have T5 := hid (T2.out.step hb5)
            clear hb5
            obtain ⟨a0, a1, a2, a3⟩ := T5.out.a.facts
            obtain ⟨r0, r1, r2, r3⟩ := T5.out.r.facts
            cases h5 : rOk la ha
            · rw [HM, HY, h5] at HE
              go_wp2
              try simp only [Exit.inBlock, Exit.then]
              refine bodyPost_ret (v := .tuple #[rng ⟨#[]⟩ ⟨#[]⟩, .bool false]) ?_ rfl ?_
              · exact results_rng_bool rfl _ _ _ rfl rfl (by go_simp) (by go_simp)
              · exact ⟨by rw [HF.out (by rw [HE.out]; rfl)], (T5.out.bel.setCell (by simp; omega) _).setCell (by simp; omega) _⟩
            · rw [HM, HY, h5] at HE
              rw [HM, HY] at HT
              go_wp2
              try simp only [Exit.inBlock, Exit.then]
              refine bodyPost_ret (v := .tuple #[rng la ha, .bool true]) ?_ rfl ?_
              · exact results_rng_bool rfl _ _ _ rfl rfl (by go_simp) (by go_simp)
              · exact ⟨by rw [HT.out (by rw [HE.out]; rfl)], (T5.out.bel.setCell (by simp; omega) _).setCell (by simp; omega) _⟩
          · have k4 : hb.toList.isEmpty = false := by simpa using k3
            cases k5 : Op.bytesLess hb.toList ha.toList
            · have HY : lsr ha hb = ha := by
                unfold lsr
                rw [if_neg k1]
                rcases tri ha hb with t | t | t
                · rw [if_pos (by simp [ahd, t.1])]
                · subst t; split <;> rfl
                · rw [t.2.1] at k5; cases k5
              go_wp2_with fail
              refine (specRangeOk_any la ha _).mono ?_
              rintro e v5 ⟨rfl, hb5⟩
              have T5 := hid (T2.out.step hb5)
              clear hb5
              obtain ⟨a0, a1, a2, a3⟩ := T5.out.a.facts
              obtain ⟨r0, r1, r2, r3⟩ := T5.out.r.facts
              cases h5 : rOk la ha
              · rw [HM, HY, h5] at HE
                go_wp2
                try simp only [Exit.inBlock, Exit.then]
                refine bodyPost_ret (v := .tuple #[rng ⟨#[]⟩ ⟨#[]⟩, .bool false]) ?_ rfl ?_
                · exact results_rng_bool rfl _ _ _ rfl rfl (by go_simp) (by go_simp)
                · exact ⟨by rw [HF.out (by rw [HE.out]; rfl)], (T5.out.bel.setCell (by simp; omega) _).setCell (by simp; omega) _⟩
              · rw [HM, HY, h5] at HE
                rw [HM, HY] at HT
                go_wp2
                try simp only [Exit.inBlock, Exit.then]
                refine bodyPost_ret (v := .tuple #[rng la ha, .bool true]) ?_ rfl ?_
                · exact results_rng_bool rfl _ _ _ rfl rfl (by go_simp) (by go_simp)
                · exact ⟨by rw [HT.out (by rw [HE.out]; rfl)], (T5.out.bel.setCell (by simp; omega) _).setCell (by simp; omega) _⟩
            · have HY : lsr ha hb = hb := by unfold lsr; rw [if_neg k1, if_neg (by simp [ahd, k3, less_asymm _ _ k5])]
              go_wp2_with fail
              refine (specRangeOk_any la hb _).mono ?_
              rintro e v5 ⟨rfl, hb5⟩
              have T5 := hid (T2.out.hi.step hb5)
              clear hb5
              obtain ⟨a0, a1, a2, a3⟩ := T5.out.a.facts
              obtain ⟨r0, r1, r2, r3⟩ := T5.out.r.facts
              cases h5 : rOk la hb
              · rw [HM, HY, h5] at HE
                go_wp2
                try simp only [Exit.inBlock, Exit.then]
                refine bodyPost_ret (v := .tuple #[rng ⟨#[]⟩ ⟨#[]⟩, .bool false]) ?_ rfl ?_
                · exact results_rng_bool rfl _ _ _ rfl rfl (by go_simp) (by go_simp)
                · exact ⟨by rw [HF.out (by rw [HE.out]; rfl)], (T5.out.bel.setCell (by simp; omega) _).setCell (by simp; omega) _⟩
              · rw [HM, HY, h5] at HE
                rw [HM, HY] at HT
                go_wp2
                try simp only [Exit.inBlock, Exit.then]
                refine bodyPost_ret (v := .tuple #[rng la hb, .bool true]) ?_ rfl ?_
                · exact results_rng_bool rfl _ _ _ rfl rfl (by go_simp) (by go_simp)
                · exact ⟨by rw [HT.out (by rw [HE.out]; rfl)], (T5.out.bel.setCell (by simp; omega) _).setCell (by simp; omega) _⟩
      · have HM : mxl la lb = la := by simp [mxl, t1]
        by_cases k1 : ha.toList = []
        · have HY : lsr ha hb = hb := if_pos k1
          go_wp2_with fail
          refine (specRangeOk_any la hb _).mono ?_
          rintro e v5 ⟨rfl, hb5⟩
          have T5 := hid (T2.out.hi.step hb5)
          clear hb5
          obtain ⟨a0, a1, a2, a3⟩ := T5.out.a.facts
          obtain ⟨r0, r1, r2, r3⟩ := T5.out.r.facts
          cases h5 : rOk la hb
          · rw [HM, HY, h5] at HE
            go_wp2
            try simp only [Exit.inBlock, Exit.then]
            refine bodyPost_ret (v := .tuple #[rng ⟨#[]⟩ ⟨#[]⟩, .bool false]) ?_ rfl ?_
            · exact results_rng_bool rfl _ _ _ rfl rfl (by go_simp) (by go_simp)
            · exact ⟨by rw [HF.out (by rw [HE.out]; rfl)], (T5.out.bel.setCell (by simp; omega) _).setCell (by simp; omega) _⟩
          · rw [HM, HY, h5] at HE
            rw [HM, HY] at HT
            go_wp2
            try simp only [Exit.inBlock, Exit.then]
            refine bodyPost_ret (v := .tuple #[rng la hb, .bool true]) ?_ rfl ?_
            · exact results_rng_bool rfl _ _ _ rfl rfl (by go_simp) (by go_simp)
            · exact ⟨by rw [HT.out (by rw [HE.out]; rfl)], (T5.out.bel.setCell (by simp; omega) _).setCell (by simp; omega) _⟩
        · have k2 : ha.toList.isEmpty = false := by simpa using k1
          by_cases k3 : hb.toList = []
          · have HY : lsr ha hb = ha := by unfold lsr; rw [if_neg k1, if_pos (by simp [ahd, k3])]
            go_wp2_with fail
            refine (specRangeOk_any la ha _).mono ?_
            rintro e v5 ⟨rfl, hb5⟩
            have T5 := hid (T2.out.step hb5)
            clear hb5
            obtain ⟨a0, a1, a2, a3⟩ := T5.out.a.facts
            obtain ⟨r0, r1, r2, r3⟩ := T5.out.r.facts
            cases h5 : rOk la ha
            · rw [HM, HY, h5] at HE
              go_wp2
              try simp only [Exit.inBlock, Exit.then]
              refine bodyPost_ret (v := .tuple #[rng ⟨#[]⟩ ⟨#[]⟩, .bool false]) ?_ rfl ?_
              · exact results_rng_bool rfl _ _ _ rfl rfl (by go_simp) (by go_simp)
              · exact ⟨by rw [HF.out (by rw [HE.out]; rfl)], (T5.out.bel.setCell (by simp; omega) _).setCell (by simp; omega) _⟩
            · rw [HM, HY, h5] at HE
              rw [HM, HY] at HT
              go_wp2
              try simp only [Exit.inBlock, Exit.then]
              refine bodyPost_ret (v := .tuple #[rng la ha, .bool true]) ?_ rfl ?_
              · exact results_rng_bool rfl _ _ _ rfl rfl (by go_simp) (by go_simp)
              · exact ⟨by rw [HT.out (by rw [HE.out]; rfl)], (T5.out.bel.setCell (by simp; omega) _).setCell (by simp; omega) _⟩
          · have k4 : hb.toList.isEmpty = false := by simpa using k3
            cases k5 : Op.bytesLess hb.toList ha.toList
            · have HY : lsr ha hb = ha := by
                unfold lsr
                rw [if_neg k1]
                rcases tri ha hb with t | t | t
                · rw [if_pos (by simp [ahd, t.1])]
                · subst t; split <;> rfl
                · rw [t.2.1] at k5; cases k5
              go_wp2_with fail
              refine (specRangeOk_any la ha _).mono ?_
              rintro e v5 ⟨rfl, hb5⟩
              have T5 := hid (T2.out.step hb5)
              clear hb5
              obtain ⟨a0, a1, a2, a3⟩ := T5.out.a.facts
              obtain ⟨r0, r1, r2, r3⟩ := T5.out.r.facts
              cases h5 : rOk la ha
              · rw [HM, HY, h5] at HE
                go_wp2
                try simp only [Exit.inBlock, Exit.then]
                refine bodyPost_ret (v := .tuple #[rng ⟨#[]⟩ ⟨#[]⟩, .bool false]) ?_ rfl ?_
                · exact results_rng_bool rfl _ _ _ rfl rfl (by go_simp) (by go_simp)
                · exact ⟨by rw [HF.out (by rw [HE.out]; rfl)], (T5.out.bel.setCell (by simp; omega) _).setCell (by simp; omega) _⟩
              · rw [HM, HY, h5] at HE
                rw [HM, HY] at HT
                go_wp2
                try simp only [Exit.inBlock, Exit.then]
                refine bodyPost_ret (v := .tuple #[rng la ha, .bool true]) ?_ rfl ?_
                · exact results_rng_bool rfl _ _ _ rfl rfl (by go_simp) (by go_simp)
                · exact ⟨by rw [HT.out (by rw [HE.out]; rfl)], (T5.out.bel.setCell (by simp; omega) _).setCell (by simp; omega) _⟩
            · have HY : lsr ha hb = hb := by unfold lsr; rw [if_neg k1, if_neg (by simp [ahd, k3, less_asymm _ _ k5])]
              go_wp2_with fail
              refine (specRangeOk_any la hb _).mono ?_
              rintro e v5 ⟨rfl, hb5⟩
              have T5 := hid (T2.out.hi.step hb5)
              clear hb5
              obtain ⟨a0, a1, a2, a3⟩ := T5.out.a.facts
              obtain ⟨r0, r1, r2, r3⟩ := T5.out.r.facts
              cases h5 : rOk la hb
              · rw [HM, HY, h5] at HE
                go_wp2
                try simp only [Exit.inBlock, Exit.then]
                refine bodyPost_ret (v := .tuple #[rng ⟨#[]⟩ ⟨#[]⟩, .bool false]) ?_ rfl ?_
                · exact results_rng_bool rfl _ _ _ rfl rfl (by go_simp) (by go_simp)
                · exact ⟨by rw [HF.out (by rw [HE.out]; rfl)], (T5.out.bel.setCell (by simp; omega) _).setCell (by simp; omega) _⟩
              · rw [HM, HY, h5] at HE
                rw [HM, HY] at HT
                go_wp2
                try simp only [Exit.inBlock, Exit.then]
                refine bodyPost_ret (v := .tuple #[rng la hb, .bool true]) ?_ rfl ?_
                · exact results_rng_bool rfl _ _ _ rfl rfl (by go_simp) (by go_simp)
                · exact ⟨by rw [HT.out (by rw [HE.out]; rfl)], (T5.out.bel.setCell (by simp; omega) _).setCell (by simp; omega) _⟩
end Go.Proofs.Ytbaggkfgnjenoaa

