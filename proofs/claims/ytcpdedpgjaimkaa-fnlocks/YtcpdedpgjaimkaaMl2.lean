/-
  The range that two ranges have in common: the specification's function.
-/
import Derived.Test.YtcpdedpgjaimkaaMl1
import Derived.Laws.Cover1
import Derived.Deep.RegionWith
import Derived.Deep.Strs
import Derived.Deep.Slices
import Derived.ChangeSlices
import Derived.WideShapes
import Derived.ChangeSame
import Derived.ProofKit
import Derived.OpenShut
import Derived.Deep.DeepCutAuto
import Derived.Deep.RegionHeld3
import Derived.Maps.AppendAt
namespace Go.Proofs.Ytcpdedpgjaimkaa
open Go.RowKit

theorem Blk.set0 {w : World} {g : Nat} {lo hi x : ByteArray} (h : Blk w g lo hi) : Blk (w.setCell ⟨g, 0, none⟩ (.string x)) g x hi := by
  unfold Blk at h ⊢
  simp [World.setCell, Array.getElem?_modify, h]
theorem Blk.set1 {w : World} {g : Nat} {lo hi x : ByteArray} (h : Blk w g lo hi) : Blk (w.setCell ⟨g, 1, none⟩ (.string x)) g lo x := by
  unfold Blk at h ⊢
  simp [World.setCell, Array.getElem?_modify, h]
theorem Blk.other {w : World} {g g' o : Nat} {lo hi : ByteArray} {x : Value} (h : Blk w g lo hi) (hne : g ≠ g') : Blk (w.setCell ⟨g', o, none⟩ x) g lo hi := (Below.heap_setCell w ⟨g', o, none⟩ x g hne).trans h
theorem Trio.lo {w v : World} {la ha lb hb x : ByteArray} (T : Trio w v la ha lb hb) : Trio w (v.setCell ⟨w.heap.size, 0, none⟩ (.string x)) x ha lb hb :=
  ⟨T.bel.setCell (p := ⟨w.heap.size, 0, none⟩) (Nat.le_refl _) _, T.a.set0, T.b.other (by omega), T.r.other (by omega)⟩
theorem Trio.hi {w v : World} {la ha lb hb x : ByteArray} (T : Trio w v la ha lb hb) : Trio w (v.setCell ⟨w.heap.size, 1, none⟩ (.string x)) la x lb hb :=
  ⟨T.bel.setCell (p := ⟨w.heap.size, 1, none⟩) (Nat.le_refl _) _, T.a.set1, T.b.other (by omega), T.r.other (by omega)⟩
set_option maxHeartbeats 8000000 in
theorem specRangeBoth_any (la ha lb hb : ByteArray) (w : World) : Calls Try.prog 166 #[rng la ha, rng lb hb] w fun e w' => e = .returned (.tuple #[rng (bLo la ha lb hb) (bHi la ha lb hb), .bool (bth la ha lb hb)]) ∧ Below w.heap.size w w' := by
  show Calls Try.prog 166 #[.agg #[.string la, .string ha], .agg #[.string lb, .string hb]] w _
  have HE : Hid (bth la ha lb hb = (rOk la ha && rOk lb hb && rOk (mxl la lb) (lsr ha hb))) := rfl
  have HF : Hid (bth la ha lb hb = false → Value.tuple #[rng (bLo la ha lb hb) (bHi la ha lb hb), .bool (bth la ha lb hb)] = .tuple #[rng ⟨#[]⟩ ⟨#[]⟩, .bool false]) := fun h => by simp [bLo, bHi, h]
  have HT : Hid (bth la ha lb hb = true → Value.tuple #[rng (bLo la ha lb hb) (bHi la ha lb hb), .bool (bth la ha lb hb)] = .tuple #[rng (mxl la lb) (lsr ha hb), .bool true]) := fun h => by simp [bLo, bHi, h]
  have T0 := hid (Trio.new w la ha lb hb)
  go_enter Try.func166, Try.ntmps166
  go_wp2_with fail
  refine (specRangeOk_any la ha _).mono ?_
  generalize ((w.alloc (.cells #[.string la, .string ha] 27)).alloc (.cells #[.string lb, .string hb] 27)).alloc (.cells #[.string ⟨#[]⟩, .string ⟨#[]⟩] 27) = v0 at T0 ⊢
  rintro e v1 ⟨rfl, hb1⟩
  have T1 := hid (T0.out.step hb1)
  clear T0 hb1 v0
  obtain ⟨a0, a1, _, _⟩ := T1.out.a.facts
  obtain ⟨b0, b1, _, _⟩ := T1.out.b.facts
  obtain ⟨r0, r1, r2, r3⟩ := T1.out.r.facts
  cases h1 : rOk la ha
  · rw [h1] at HE
    go_wp2
    try simp only [Exit.inBlock, Exit.then]
    refine bodyPost_ret (v := .tuple #[rng ⟨#[]⟩ ⟨#[]⟩, .bool false]) ?_ rfl ?_
    · exact results_rng_bool rfl _ _ _ rfl rfl (by go_simp) (by go_simp)
    · exact ⟨by rw [HF.out (by rw [HE.out]; rfl)], (T1.out.bel.setCell (by simp; omega) _).setCell (by simp; omega) _⟩
  · rw [h1] at HE
    go_wp2_with fail
    refine (specRangeOk_any lb hb _).mono ?_
    rintro e v2 ⟨rfl, hb2⟩
    have T2 := hid (T1.out.step hb2)
    clear T1 hb2 a0 a1 b0 b1 r0 r1 r2 r3
    obtain ⟨a0, a1, a2, a3⟩ := T2.out.a.facts
    obtain ⟨b0, b1, _, _⟩ := T2.out.b.facts
    obtain ⟨r0, r1, r2, r3⟩ := T2.out.r.facts
    cases h2 : rOk lb hb
    · rw [h2] at HE
      go_wp2
      try simp only [Exit.inBlock, Exit.then]
      refine bodyPost_ret (v := .tuple #[rng ⟨#[]⟩ ⟨#[]⟩, .bool false]) ?_ rfl ?_
      · exact results_rng_bool rfl _ _ _ rfl rfl (by go_simp) (by go_simp)
      · exact ⟨by rw [HF.out (by rw [HE.out]; rfl)], (T2.out.bel.setCell (by simp; omega) _).setCell (by simp; omega) _⟩
    · rw [h2] at HE
      rcases tri la lb with ⟨t1, t2, t3, t4⟩ | rfl | ⟨t1, t2, t3, t4⟩
      · have HM : mxl la lb = lb := by simp [mxl, t1]
        by_cases k1 : ha.toList = []
        · have HY : lsr ha hb = hb := if_pos k1
          go_wp2_with fail
          refine (specRangeOk_any lb hb _).mono ?_
          rintro e v5 ⟨rfl, hb5⟩
          have T5 := hid (T2.out.lo.hi.step hb5)
          clear hb5
          obtain ⟨a0, a1, a2, a3⟩ := T5.out.a.facts
          obtain ⟨r0, r1, r2, r3⟩ := T5.out.r.facts
          cases h5 : rOk lb hb
          · rw [HM, HY, h5] at HE
            go_wp2
            try simp only [Exit.inBlock, Exit.then]
            refine bodyPost_ret (v := .tuple #[rng ⟨#[]⟩ ⟨#[]⟩, .bool false]) ?_ rfl ?_
            · exact results_rng_bool rfl _ _ _ rfl rfl (by go_simp) (by go_simp)
            · exact ⟨by rw [HF.out (by rw [HE.out]; rfl)], (T5.out.bel.setCell (by simp; omega) _).setCell (by simp; omega) _⟩
          · rw [HM, HY, h5] at HE
            rw [HM, HY] at HT
            go_wp2
            try simp only [Exit.inBlock, Exit.then]
            refine bodyPost_ret (v := .tuple #[rng lb hb, .bool true]) ?_ rfl ?_
            · exact results_rng_bool rfl _ _ _ rfl rfl (by go_simp) (by go_simp)
            · exact ⟨by rw [HT.out (by rw [HE.out]; rfl)], (T5.out.bel.setCell (by simp; omega) _).setCell (by simp; omega) _⟩
        · have k2 : ha.toList.isEmpty = false := by simpa using k1
          by_cases k3 : hb.toList = []
          · have HY : lsr ha hb = ha := by unfold lsr; rw [if_neg k1, if_pos (by simp [ahd, k3])]
            go_wp2_with fail
            refine (specRangeOk_any lb ha _).mono ?_
            rintro e v5 ⟨rfl, hb5⟩
            have T5 := hid (T2.out.lo.step hb5)
            clear hb5
            obtain ⟨a0, a1, a2, a3⟩ := T5.out.a.facts
            obtain ⟨r0, r1, r2, r3⟩ := T5.out.r.facts
            cases h5 : rOk lb ha
            · rw [HM, HY, h5] at HE
              go_wp2
              try simp only [Exit.inBlock, Exit.then]
              refine bodyPost_ret (v := .tuple #[rng ⟨#[]⟩ ⟨#[]⟩, .bool false]) ?_ rfl ?_
              · exact results_rng_bool rfl _ _ _ rfl rfl (by go_simp) (by go_simp)
              · exact ⟨by rw [HF.out (by rw [HE.out]; rfl)], (T5.out.bel.setCell (by simp; omega) _).setCell (by simp; omega) _⟩
            · rw [HM, HY, h5] at HE
              rw [HM, HY] at HT
              go_wp2
              try simp only [Exit.inBlock, Exit.then]
              refine bodyPost_ret (v := .tuple #[rng lb ha, .bool true]) ?_ rfl ?_
              · exact results_rng_bool rfl _ _ _ rfl rfl (by go_simp) (by go_simp)
              · exact ⟨by rw [HT.out (by rw [HE.out]; rfl)], (T5.out.bel.setCell (by simp; omega) _).setCell (by simp; omega) _⟩
          · have k4 : hb.toList.isEmpty = false := by simpa using k3
            cases k5 : Op.bytesLess hb.toList ha.toList
            · have HY : lsr ha hb = ha := by
                unfold lsr
                rw [if_neg k1]
                rcases tri ha hb with t | t | t
                · rw [if_pos (by simp [ahd, t.1])]
                · subst t; split <;> rfl
                · rw [t.2.1] at k5; cases k5
              go_wp2_with fail
              refine (specRangeOk_any lb ha _).mono ?_
              rintro e v5 ⟨rfl, hb5⟩
              have T5 := hid (T2.out.lo.step hb5)
              clear hb5
              obtain ⟨a0, a1, a2, a3⟩ := T5.out.a.facts
              obtain ⟨r0, r1, r2, r3⟩ := T5.out.r.facts
              cases h5 : rOk lb ha
              · rw [HM, HY, h5] at HE
                go_wp2
                try simp only [Exit.inBlock, Exit.then]
                refine bodyPost_ret (v := .tuple #[rng ⟨#[]⟩ ⟨#[]⟩, .bool false]) ?_ rfl ?_
                · exact results_rng_bool rfl _ _ _ rfl rfl (by go_simp) (by go_simp)
                · exact ⟨by rw [HF.out (by rw [HE.out]; rfl)], (T5.out.bel.setCell (by simp; omega) _).setCell (by simp; omega) _⟩
              · rw [HM, HY, h5] at HE
                rw [HM, HY] at HT
                go_wp2
                try simp only [Exit.inBlock, Exit.then]
                refine bodyPost_ret (v := .tuple #[rng lb ha, .bool true]) ?_ rfl ?_
                · exact results_rng_bool rfl _ _ _ rfl rfl (by go_simp) (by go_simp)
                · exact ⟨by rw [HT.out (by rw [HE.out]; rfl)], (T5.out.bel.setCell (by simp; omega) _).setCell (by simp; omega) _⟩
            · have HY : lsr ha hb = hb := by unfold lsr; rw [if_neg k1, if_neg (by simp [ahd, k3, less_asymm _ _ k5])]
              go_wp2_with fail
              refine (specRangeOk_any lb hb _).mono ?_
              rintro e v5 ⟨rfl, hb5⟩
              have T5 := hid (T2.out.lo.hi.step hb5)
              clear hb5
              obtain ⟨a0, a1, a2, a3⟩ := T5.out.a.facts
              obtain ⟨r0, r1, r2, r3⟩ := T5.out.r.facts
              cases h5 : rOk lb hb
              · rw [HM, HY, h5] at HE
                go_wp2
                try simp only [Exit.inBlock, Exit.then]
                refine bodyPost_ret (v := .tuple #[rng ⟨#[]⟩ ⟨#[]⟩, .bool false]) ?_ rfl ?_
                · exact results_rng_bool rfl _ _ _ rfl rfl (by go_simp) (by go_simp)
                · exact ⟨by rw [HF.out (by rw [HE.out]; rfl)], (T5.out.bel.setCell (by simp; omega) _).setCell (by simp; omega) _⟩
              · rw [HM, HY, h5] at HE
                rw [HM, HY] at HT
                go_wp2
                try simp only [Exit.inBlock, Exit.then]
                refine bodyPost_ret (v := .tuple #[rng lb hb, .bool true]) ?_ rfl ?_
                · exact results_rng_bool rfl _ _ _ rfl rfl (by go_simp) (by go_simp)
                · exact ⟨by rw [HT.out (by rw [HE.out]; rfl)], (T5.out.bel.setCell (by simp; omega) _).setCell (by simp; omega) _⟩
      · have t1 := less_irrefl la.toList
        have HM : mxl la la = la := by simp [mxl, t1]
        by_cases k1 : ha.toList = []
        · have HY : lsr ha hb = hb := if_pos k1
          go_wp2_with fail
          refine (specRangeOk_any la hb _).mono ?_
          rintro e v5 ⟨rfl, hb5⟩
          have T5 := hid (T2.out.hi.step hb5)
          clear hb5
          obtain ⟨a0, a1, a2, a3⟩ := T5.out.a.facts
          obtain ⟨r0, r1, r2, r3⟩ := T5.out.r.facts
          cases h5 : rOk la hb
          · rw [HM, HY, h5] at HE
            go_wp2
            try simp only [Exit.inBlock, Exit.then]
            refine bodyPost_ret (v := .tuple #[rng ⟨#[]⟩ ⟨#[]⟩, .bool false]) ?_ rfl ?_
            · exact results_rng_bool rfl _ _ _ rfl rfl (by go_simp) (by go_simp)
            · exact ⟨by rw [HF.out (by rw [HE.out]; rfl)], (T5.out.bel.setCell (by simp; omega) _).setCell (by simp; omega) _⟩
          · rw [HM, HY, h5] at HE
            rw [HM, HY] at HT
            go_wp2
            try simp only [Exit.inBlock, Exit.then]
            refine bodyPost_ret (v := .tuple #[rng la hb, .bool true]) ?_ rfl ?_
            · exact results_rng_bool rfl _ _ _ rfl rfl (by go_simp) (by go_simp)
            · exact ⟨by rw [HT.out (by rw [HE.out]; rfl)], (T5.out.bel.setCell (by simp; omega) _).setCell (by simp; omega) _⟩
        · have k2 : ha.toList.isEmpty = false := by simpa using k1
          by_cases k3 : hb.toList = []
          · have HY : lsr ha hb = ha := by unfold lsr; rw [if_neg k1, if_pos (by simp [ahd, k3])]
            go_wp2_with fail
            refine (specRangeOk_any la ha _).mono ?_
            rintro e v5 ⟨rfl, hb5⟩
            have T5 := hid (T2.out.step hb5)
            clear hb5
            obtain ⟨a0, a1, a2, a3⟩ := T5.out.a.facts
            obtain ⟨r0, r1, r2, r3⟩ := T5.out.r.facts
            cases h5 : rOk la ha
            · rw [HM, HY, h5] at HE
              go_wp2
              try simp only [Exit.inBlock, Exit.then]
              refine bodyPost_ret (v := .tuple #[rng ⟨#[]⟩ ⟨#[]⟩, .bool false]) ?_ rfl ?_
              · exact results_rng_bool rfl _ _ _ rfl rfl (by go_simp) (by go_simp)
              · exact ⟨by rw [HF.out (by rw [HE.out]; rfl)], (T5.out.bel.setCell (by simp; omega) _).setCell (by simp; omega) _⟩
            · rw [HM, HY, h5] at HE
              rw [HM, HY] at HT
              go_wp2
              try simp only [Exit.inBlock, Exit.then]
              refine bodyPost_ret (v := .tuple #[rng la ha, .bool true]) ?_ rfl ?_
              · exact results_rng_bool rfl _ _ _ rfl rfl (by go_simp) (by go_simp)
              · exact ⟨by rw [HT.out (by rw [HE.out]; rfl)], (T5.out.bel.setCell (by simp; omega) _).setCell (by simp; omega) _⟩
          · have k4 : hb.toList.isEmpty = false := by simpa using k3
            cases k5 : Op.bytesLess hb.toList ha.toList
            · have HY : lsr ha hb = ha := by
                unfold lsr
                rw [if_neg k1]
                rcases tri ha hb with t | t | t
                · rw [if_pos (by simp [ahd, t.1])]
                · subst t; split <;> rfl
                · rw [t.2.1] at k5; cases k5
              go_wp2_with fail
              refine (specRangeOk_any la ha _).mono ?_
              rintro e v5 ⟨rfl, hb5⟩
              have T5 := hid (T2.out.step hb5)
              clear hb5
              obtain ⟨a0, a1, a2, a3⟩ := T5.out.a.facts
              obtain ⟨r0, r1, r2, r3⟩ := T5.out.r.facts
              cases h5 : rOk la ha
              · rw [HM, HY, h5] at HE
                go_wp2
                try simp only [Exit.inBlock, Exit.then]
                refine bodyPost_ret (v := .tuple #[rng ⟨#[]⟩ ⟨#[]⟩, .bool false]) ?_ rfl ?_
                · exact results_rng_bool rfl _ _ _ rfl rfl (by go_simp) (by go_simp)
                · exact ⟨by rw [HF.out (by rw [HE.out]; rfl)], (T5.out.bel.setCell (by simp; omega) _).setCell (by simp; omega) _⟩
              · rw [HM, HY, h5] at HE
                rw [HM, HY] at HT
                go_wp2
                try simp only [Exit.inBlock, Exit.then]
                refine bodyPost_ret (v := .tuple #[rng la ha, .bool true]) ?_ rfl ?_
                · exact results_rng_bool rfl _ _ _ rfl rfl (by go_simp) (by go_simp)
                · exact ⟨by rw [HT.out (by rw [HE.out]; rfl)], (T5.out.bel.setCell (by simp; omega) _).setCell (by simp; omega) _⟩
            · have HY : lsr ha hb = hb := by unfold lsr; rw [if_neg k1, if_neg (by simp [ahd, k3, less_asymm _ _ k5])]
              go_wp2_with fail
              refine (specRangeOk_any la hb _).mono ?_
              rintro e v5 ⟨rfl, hb5⟩
              have T5 := hid (T2.out.hi.step hb5)
              clear hb5
              obtain ⟨a0, a1, a2, a3⟩ := T5.out.a.facts
              obtain ⟨r0, r1, r2, r3⟩ := T5.out.r.facts
              cases h5 : rOk la hb
              · rw [HM, HY, h5] at HE
                go_wp2
                try simp only [Exit.inBlock, Exit.then]
                refine bodyPost_ret (v := .tuple #[rng ⟨#[]⟩ ⟨#[]⟩, .bool false]) ?_ rfl ?_
                · exact results_rng_bool rfl _ _ _ rfl rfl (by go_simp) (by go_simp)
                · exact ⟨by rw [HF.out (by rw [HE.out]; rfl)], (T5.out.bel.setCell (by simp; omega) _).setCell (by simp; omega) _⟩
              · rw [HM, HY, h5] at HE
                rw [HM, HY] at HT
                go_wp2
                try simp only [Exit.inBlock, Exit.then]
                refine bodyPost_ret (v := .tuple #[rng la hb, .bool true]) ?_ rfl ?_
                · exact results_rng_bool rfl _ _ _ rfl rfl (by go_simp) (by go_simp)
                · exact ⟨by rw [HT.out (by rw [HE.out]; rfl)], (T5.out.bel.setCell (by simp; omega) _).setCell (by simp; omega) _⟩
      · have HM : mxl la lb = la := by simp [mxl, t1]
        by_cases k1 : ha.toList = []
        · have HY : lsr ha hb = hb := if_pos k1
          go_wp2_with fail
          refine (specRangeOk_any la hb _).mono ?_
          rintro e v5 ⟨rfl, hb5⟩
          have T5 := hid (T2.out.hi.step hb5)
          clear hb5
          obtain ⟨a0, a1, a2, a3⟩ := T5.out.a.facts
          obtain ⟨r0, r1, r2, r3⟩ := T5.out.r.facts
          cases h5 : rOk la hb
          · rw [HM, HY, h5] at HE
            go_wp2
            try simp only [Exit.inBlock, Exit.then]
            refine bodyPost_ret (v := .tuple #[rng ⟨#[]⟩ ⟨#[]⟩, .bool false]) ?_ rfl ?_
            · exact results_rng_bool rfl _ _ _ rfl rfl (by go_simp) (by go_simp)
            · exact ⟨by rw [HF.out (by rw [HE.out]; rfl)], (T5.out.bel.setCell (by simp; omega) _).setCell (by simp; omega) _⟩
          · rw [HM, HY, h5] at HE
            rw [HM, HY] at HT
            go_wp2
            try simp only [Exit.inBlock, Exit.then]
            refine bodyPost_ret (v := .tuple #[rng la hb, .bool true]) ?_ rfl ?_
            · exact results_rng_bool rfl _ _ _ rfl rfl (by go_simp) (by go_simp)
            · exact ⟨by rw [HT.out (by rw [HE.out]; rfl)], (T5.out.bel.setCell (by simp; omega) _).setCell (by simp; omega) _⟩
        · have k2 : ha.toList.isEmpty = false := by simpa using k1
          by_cases k3 : hb.toList = []
          · have HY : lsr ha hb = ha := by unfold lsr; rw [if_neg k1, if_pos (by simp [ahd, k3])]
            go_wp2_with fail
            refine (specRangeOk_any la ha _).mono ?_
            rintro e v5 ⟨rfl, hb5⟩
            have T5 := hid (T2.out.step hb5)
            clear hb5
            obtain ⟨a0, a1, a2, a3⟩ := T5.out.a.facts
            obtain ⟨r0, r1, r2, r3⟩ := T5.out.r.facts
            cases h5 : rOk la ha
            · rw [HM, HY, h5] at HE
              go_wp2
              try simp only [Exit.inBlock, Exit.then]
              refine bodyPost_ret (v := .tuple #[rng ⟨#[]⟩ ⟨#[]⟩, .bool false]) ?_ rfl ?_
              · exact results_rng_bool rfl _ _ _ rfl rfl (by go_simp) (by go_simp)
              · exact ⟨by rw [HF.out (by rw [HE.out]; rfl)], (T5.out.bel.setCell (by simp; omega) _).setCell (by simp; omega) _⟩
            · rw [HM, HY, h5] at HE
              rw [HM, HY] at HT
              go_wp2
              try simp only [Exit.inBlock, Exit.then]
              refine bodyPost_ret (v := .tuple #[rng la ha, .bool true]) ?_ rfl ?_
              · exact results_rng_bool rfl _ _ _ rfl rfl (by go_simp) (by go_simp)
              · exact ⟨by rw [HT.out (by rw [HE.out]; rfl)], (T5.out.bel.setCell (by simp; omega) _).setCell (by simp; omega) _⟩
          · have k4 : hb.toList.isEmpty = false := by simpa using k3
            cases k5 : Op.bytesLess hb.toList ha.toList
            · have HY : lsr ha hb = ha := by
                unfold lsr
                rw [if_neg k1]
                rcases tri ha hb with t | t | t
                · rw [if_pos (by simp [ahd, t.1])]
                · subst t; split <;> rfl
                · rw [t.2.1] at k5; cases k5
              go_wp2_with fail
              refine (specRangeOk_any la ha _).mono ?_
              rintro e v5 ⟨rfl, hb5⟩
              have T5 := hid (T2.out.step hb5)
              clear hb5
              obtain ⟨a0, a1, a2, a3⟩ := T5.out.a.facts
              obtain ⟨r0, r1, r2, r3⟩ := T5.out.r.facts
              cases h5 : rOk la ha
              · rw [HM, HY, h5] at HE
                go_wp2
                try simp only [Exit.inBlock, Exit.then]
                refine bodyPost_ret (v := .tuple #[rng ⟨#[]⟩ ⟨#[]⟩, .bool false]) ?_ rfl ?_
                · exact results_rng_bool rfl _ _ _ rfl rfl (by go_simp) (by go_simp)
                · exact ⟨by rw [HF.out (by rw [HE.out]; rfl)], (T5.out.bel.setCell (by simp; omega) _).setCell (by simp; omega) _⟩
              · rw [HM, HY, h5] at HE
                rw [HM, HY] at HT
                go_wp2
                try simp only [Exit.inBlock, Exit.then]
                refine bodyPost_ret (v := .tuple #[rng la ha, .bool true]) ?_ rfl ?_
                · exact results_rng_bool rfl _ _ _ rfl rfl (by go_simp) (by go_simp)
                · exact ⟨by rw [HT.out (by rw [HE.out]; rfl)], (T5.out.bel.setCell (by simp; omega) _).setCell (by simp; omega) _⟩
            · have HY : lsr ha hb = hb := by unfold lsr; rw [if_neg k1, if_neg (by simp [ahd, k3, less_asymm _ _ k5])]
              go_wp2_with fail
              refine (specRangeOk_any la hb _).mono ?_
              rintro e v5 ⟨rfl, hb5⟩
              have T5 := hid (T2.out.hi.step hb5)
              clear hb5
              obtain ⟨a0, a1, a2, a3⟩ := T5.out.a.facts
              obtain ⟨r0, r1, r2, r3⟩ := T5.out.r.facts
              cases h5 : rOk la hb
              · rw [HM, HY, h5] at HE
                go_wp2
                try simp only [Exit.inBlock, Exit.then]
                refine bodyPost_ret (v := .tuple #[rng ⟨#[]⟩ ⟨#[]⟩, .bool false]) ?_ rfl ?_
                · exact results_rng_bool rfl _ _ _ rfl rfl (by go_simp) (by go_simp)
                · exact ⟨by rw [HF.out (by rw [HE.out]; rfl)], (T5.out.bel.setCell (by simp; omega) _).setCell (by simp; omega) _⟩
              · rw [HM, HY, h5] at HE
                rw [HM, HY] at HT
                go_wp2
                try simp only [Exit.inBlock, Exit.then]
                refine bodyPost_ret (v := .tuple #[rng la hb, .bool true]) ?_ rfl ?_
                · exact results_rng_bool rfl _ _ _ rfl rfl (by go_simp) (by go_simp)
                · exact ⟨by rw [HT.out (by rw [HE.out]; rfl)], (T5.out.bel.setCell (by simp; omega) _).setCell (by simp; omega) _⟩
end Go.Proofs.Ytcpdedpgjaimkaa
/-
  The ranges that the laws draw: some ranges.
-/
namespace Go.Proofs.Ytcpdedpgjaimkaa
open Go.RowKit
theorem Blk.grown {v v' : World} {g b : Nat} {lo hi : ByteArray} (h : Blk v b lo hi) (hg : v.grownBy v' (some g)) (hne : g < b) : Blk v' b lo hi := (hg.block b h.lt (fun e => by cases e; omega)).trans h
theorem grown_new {w v : World} {row : Option Nat} (h : w.grownBy v row) (b o : Nat) (x : Value) (hb : w.heap.size ≤ b) : w.grownBy (v.setCell ⟨b, o, none⟩ x) row :=
  ⟨h.os, h.tape, h.output, by simp [World.setCell]; exact h.size, fun k hk hne => by rw [Below.heap_setCell _ _ _ _ (fun e => by simp at e; omega)]; exact h.block k hk hne⟩
theorem Cu.set {v : World} {g : Nat} (h : Cu v g) (b o : Nat) (x : Value) (hb : g < b) : Cu (v.setCell ⟨b, o, none⟩ x) g :=
  h.kept (grownBy_set (grownBy_same v (some b)) o x) (fun k e => by cases e; exact hb)
theorem grown_below {w v v' : World} {row : Option Nat} (h : w.grownBy v row) (hb : Below v.heap.size v v') : w.grownBy v' row := grownBy_trans h (grown_of_below hb row)
/-- A draw so far: its cursor g, and a new block b that holds a range. -/
structure Dw (w v : World) (g b : Nat) (lo hi : ByteArray) : Prop where
  gr : w.grownBy v (some g)
  cu : Cu v g
  bk : Blk v b lo hi
  nb : w.heap.size ≤ b
  ng : g < w.heap.size
theorem Dw.new {w : World} {g : Nat} (h : Cu w g) (lo hi : ByteArray) : Dw w (w.alloc (.cells #[.string lo, .string hi] 27)) g w.heap.size lo hi :=
  ⟨grownBy_alloc _ _ _, h.alloc _, Blk.new _ _ _, Nat.le_refl _, h.lt⟩
theorem Dw.step {w v v' : World} {g b : Nat} {lo hi : ByteArray} (h : Dw w v g b lo hi) (hg : v.grownBy v' (some g)) (hc : Cu v' g) : Dw w v' g b lo hi :=
  ⟨grownBy_trans h.gr hg, hc, h.bk.grown hg (by have := h.nb; have := h.ng; omega), h.nb, h.ng⟩
theorem Dw.call {w v v' : World} {g b : Nat} {lo hi : ByteArray} (h : Dw w v g b lo hi) (hb : Below v.heap.size v v') : Dw w v' g b lo hi := h.step (grown_of_below hb _) (h.cu.below hb)
theorem Dw.set0 {w v : World} {g b : Nat} {lo hi x : ByteArray} (h : Dw w v g b lo hi) : Dw w (v.setCell ⟨b, 0, none⟩ (.string x)) g b x hi :=
  ⟨grown_new h.gr _ _ _ h.nb, h.cu.set _ _ _ (by have := h.nb; have := h.ng; omega), h.bk.set0, h.nb, h.ng⟩
theorem Dw.set1 {w v : World} {g b : Nat} {lo hi x : ByteArray} (h : Dw w v g b lo hi) : Dw w (v.setCell ⟨b, 1, none⟩ (.string x)) g b lo x :=
  ⟨grown_new h.gr _ _ _ h.nb, h.cu.set _ _ _ (by have := h.nb; have := h.ng; omega), h.bk.set1, h.nb, h.ng⟩
set_option maxHeartbeats 4000000 in
theorem range_any (g : Nat) (w : World) (h : Cu w g) : Calls Try.prog 101 #[.pointer (some ⟨g, 0, none⟩)] w fun e w' => (∃ lo hi : ByteArray, e = .returned (.agg #[.string lo, .string hi])) ∧ w.grownBy w' (some g) ∧ Cu w' g := by
  have D0 := hid (Dw.new h ⟨#[]⟩ ⟨#[]⟩)
  clear h
  go_enter Try.func101, Try.ntmps101
  go_wp2_with fail
  refine (key_any g _ D0.out.cu).mono ?_
  rintro e w1 ⟨⟨a, rfl, ha⟩, hg1, hc1⟩
  have D1 := hid (D0.out.step hg1 hc1)
  clear hg1 hc1 D0
  go_wp2_with fail
  refine (key_any g _ D1.out.cu).mono ?_
  rintro e w2 ⟨⟨b, rfl, hb⟩, hg1, hc1⟩
  have D2 := hid (D1.out.step hg1 hc1)
  clear hg1 hc1 D1
  go_wp2_with fail
  refine (below_any g 6 _ D2.out.cu (by omega) (by omega)).mono ?_
  rintro e w3 ⟨⟨x, rfl, hx0, hx1⟩, hg1, hc1⟩
  have D3 := hid (D2.out.step hg1 hc1)
  clear hg1 hc1 D2
  obtain ⟨r0, r1, r2, r3⟩ := D3.out.bk.facts
  rcases (by omega : x = 0 ∨ x = 1 ∨ x = 2 ∨ 3 ≤ x) with rfl | rfl | rfl | hx
  · clear hx0 hx1
    go_wp2
    try simp only [Exit.inBlock, Exit.then]
    refine bodyPost_ret (v := rng ⟨#[]⟩ ⟨#[]⟩) ?_ rfl ?_
    · exact results_rng rfl _ _ _ rfl (by go_simp) (by go_simp)
    · exact ⟨⟨_, _, rfl⟩, D3.out.set0.set1.gr, D3.out.set0.set1.cu⟩
  · clear hx0 hx1
    go_wp2
    try simp only [Exit.inBlock, Exit.then]
    refine bodyPost_ret (v := rng a ⟨#[]⟩) ?_ rfl ?_
    · exact results_rng rfl _ _ _ rfl (by go_simp) (by go_simp)
    · exact ⟨⟨_, _, rfl⟩, D3.out.set0.set1.gr, D3.out.set0.set1.cu⟩
  · clear hx0 hx1
    go_wp2_with fail
    refine (specPointOf_any a _).mono ?_
    rintro e w4 ⟨rfl, hb4⟩
    have D4 := hid (D3.out.call hb4)
    clear hb4 D3 r0 r1 r2 r3
    obtain ⟨r0, r1, r2, r3⟩ := D4.out.bk.facts
    simp only [rng]
    go_wp2
    try simp only [Exit.inBlock, Exit.then]
    refine bodyPost_ret (v := rng (ptLo a) (ptHi a)) ?_ rfl ?_
    · exact results_rng rfl _ _ _ rfl (by go_simp) (by go_simp)
    · exact ⟨⟨_, _, rfl⟩, D4.out.set0.set1.gr, D4.out.set0.set1.cu⟩
  · have hx2 : (x == 2) = false := by simp; omega
    have hx3 : (x == 1) = false := by simp; omega
    have hx4 : (x == 0) = false := by simp; omega
    rcases tri a b with ⟨t1, t2, t3, t4⟩ | rfl | ⟨t1, t2, t3, t4⟩
    · go_wp2
      try simp only [Exit.inBlock, Exit.then]
      refine bodyPost_ret (v := rng a b) ?_ rfl ?_
      · exact results_rng rfl _ _ _ rfl (by go_simp) (by go_simp)
      · exact ⟨⟨_, _, rfl⟩, D3.out.set0.set1.gr, D3.out.set0.set1.cu⟩
    · go_wp2_with fail
      refine (specPointOf_any a _).mono ?_
      rintro e w4 ⟨rfl, hb4⟩
      have D4 := hid (D3.out.call hb4)
      clear hb4 D3 r0 r1 r2 r3
      obtain ⟨r0, r1, r2, r3⟩ := D4.out.bk.facts
      simp only [rng]
      go_wp2
      try simp only [Exit.inBlock, Exit.then]
      refine bodyPost_ret (v := rng (ptLo a) (ptHi a)) ?_ rfl ?_
      · exact results_rng rfl _ _ _ rfl (by go_simp) (by go_simp)
      · exact ⟨⟨_, _, rfl⟩, D4.out.set0.set1.gr, D4.out.set0.set1.cu⟩
    · go_wp2
      try simp only [Exit.inBlock, Exit.then]
      refine bodyPost_ret (v := rng b a) ?_ rfl ?_
      · exact results_rng rfl _ _ _ rfl (by go_simp) (by go_simp)
      · exact ⟨⟨_, _, rfl⟩, D3.out.set0.set1.gr, D3.out.set0.set1.cu⟩
end Go.Proofs.Ytcpdedpgjaimkaa
/-
  The locks that the laws draw: some lock.
-/
namespace Go.Proofs.Ytcpdedpgjaimkaa
open Go.RowKit
set_option linter.unusedVariables false
theorem results_lockD {fn : Func} {p : Tmp} (h : fn.results = #[.cell p 75]) (tmps : Array Value) (w : World) (g : Nat) {c e n : Int} {lo hi : ByteArray} {ex : Bool} (hp : tmps.getD p undef = .pointer (some ⟨g, 0, none⟩))
    (c0 : w.cell? ⟨g, 0, none⟩ = some (.int .i64 c)) (c1 : w.cell? ⟨g, 1, none⟩ = some (.int .i64 e)) (c2 : w.cell? ⟨g, 2, none⟩ = some (.int .i64 n)) (c3 : w.cell? ⟨g, 3, none⟩ = some (.string lo)) (c4 : w.cell? ⟨g, 4, none⟩ = some (.string hi)) (c5 : w.cell? ⟨g, 5, none⟩ = some (.bool ex)) :
    (results fn tmps).run Try.prog w = .ok (.agg #[.int .i64 c, .int .i64 e, .int .i64 n, .string lo, .string hi, .bool ex]) w := by
  have hp' : tmps[p]?.getD undef = .pointer (some ⟨g, 0, none⟩) := by simpa using hp
  have hl : (loadVar 75 ⟨g, 0, none⟩).run Try.prog w = .ok (.agg #[.int .i64 c, .int .i64 e, .int .i64 n, .string lo, .string hi, .bool ex]) w := by go_simp
  simp [results, h, hp', asAddr, hl]
set_option maxHeartbeats 4000000 in
theorem l07Lock_any (g : Nat) (w : World) (h : Cu w g) : Calls Try.prog 77 #[.pointer (some ⟨g, 0, none⟩)] w fun r w' => (∃ (c e n : Int) (lo hi : ByteArray) (ex : Bool), r = .returned (.agg #[.int .i64 c, .int .i64 e, .int .i64 n, .string lo, .string hi, .bool ex])) ∧ w.grownBy w' (some g) ∧ Cu w' g := by
  have D0 := hid ((DGX.start h).alloc (.cells #[.int .i64 0, .int .i64 0, .int .i64 0, .string ⟨#[]⟩, .string ⟨#[]⟩, .bool false] 75))
  have K0 := hid (Bk.new w 75 [.int .i64 0, .int .i64 0, .int .i64 0, .string ⟨#[]⟩, .string ⟨#[]⟩, .bool false])
  clear h
  go_enter Try.func77, Try.ntmps77
  go_wp2_with fail
  refine (l07Tx_any g _ D0.out.cu).mono ?_
  generalize w.alloc (.cells #[.int .i64 0, .int .i64 0, .int .i64 0, .string ⟨#[]⟩, .string ⟨#[]⟩, .bool false] 75) = U at *
  rintro r w1 ⟨⟨c, e, n, rfl⟩, hg1, hc1⟩
  have D1 := hid (D0.out.step hg1 hc1)
  have K1 := hid (K0.out.grownX hg1 (by have := D0.out.ng; omega))
  clear hg1 hc1 D0 K0
  go_wp2_with fail
  refine (range_any g _ D1.out.cu).mono ?_
  rintro r w2 ⟨⟨lo, hi, rfl⟩, hg1, hc1⟩
  have D2 := hid (D1.out.step hg1 hc1)
  have K2 := hid (K1.out.grownX hg1 (by have := D1.out.ng; omega))
  clear hg1 hc1 D1 K1
  go_wp2_with fail
  refine (below_any g 2 _ D2.out.cu (by omega) (by omega)).mono ?_
  rintro r w3 ⟨⟨z, rfl, hz0, hz1⟩, hg1, hc1⟩
  have D3 := hid (D2.out.step hg1 hc1)
  have K3 := hid (K2.out.grownX hg1 (by have := D2.out.ng; omega))
  clear hg1 hc1 D2 K2
  have z0 := K3.out.cell (j := 0) rfl
  have z1 := K3.out.cell (j := 1) rfl
  have z2 := K3.out.cell (j := 2) rfl
  have z3 := K3.out.cell (j := 3) rfl
  have z4 := K3.out.cell (j := 4) rfl
  have z5 := K3.out.cell (j := 5) rfl
  have f0 := K3.out.free 0
  have f1 := K3.out.free 1
  have f2 := K3.out.free 2
  have f3 := K3.out.free 3
  have f4 := K3.out.free 4
  have f5 := K3.out.free 5
  obtain ⟨ex, hex⟩ : ∃ ex : Bool, (z == 0) = ex := ⟨_, rfl⟩
  go_wp2
  try simp only [Exit.inBlock, Exit.then]
  refine bodyPost_ret (v := .agg #[.int .i64 c, .int .i64 e, .int .i64 n, .string lo, .string hi, .bool ex]) ?_ rfl ?_
  · exact results_lockD rfl _ _ _ rfl (by go_simp) (by go_simp) (by go_simp) (by go_simp) (by go_simp) (by go_simp)
  · have q := (((((D3.out.set (b := w.heap.size) (Nat.le_refl _) 0 (.int .i64 c)).set (b := w.heap.size) (Nat.le_refl _) 1 (.int .i64 e)).set (b := w.heap.size) (Nat.le_refl _) 2 (.int .i64 n)).set (b := w.heap.size) (Nat.le_refl _) 3 (.string lo)).set (b := w.heap.size) (Nat.le_refl _) 4 (.string hi)).set (b := w.heap.size) (Nat.le_refl _) 5 (.bool ex)
    exact ⟨⟨_, _, _, _, _, _, rfl⟩, q.gr, q.cu⟩
end Go.Proofs.Ytcpdedpgjaimkaa
/-
  Plain mathematics: a right table stays right when a lock is asked for and when a transaction is freed; who is freed has none.
-/
namespace Go.Proofs.Ytcpdedpgjaimkaa
set_option linter.unusedVariables false
theorem rall_congr {f g : Nat → Bool} {n : Nat} (h : ∀ i, i < n → f i = g i) : (List.range n).all f = (List.range n).all g := by
  induction n with
  | zero => rfl
  | succ n ih => rw [rall_succ, rall_succ, ih (fun i hi => h i (by omega)), h n (by omega)]
theorem lAt_left {h : List LK} {x : LK} {i : Nat} (hi : i < h.length) : lAt (h ++ [x]) i = lAt h i := by simp [lAt, List.getElem?_append_left hi]
theorem lAt_last (h : List LK) (x : LK) : lAt (h ++ [x]) h.length = x := by simp [lAt]
theorem take_left' {h : List LK} {x : LK} {i : Nat} (hi : i ≤ h.length) : (h ++ [x]).take i = h.take i := by rw [List.take_append_of_le_length hi]
theorem heldB_snoc (h : List LK) (x : LK) : heldB (h ++ [x]) = (heldB h && (lkOk x && !anyC h x)) := by
  unfold heldB
  rw [List.length_append, show [x].length = 1 from rfl, rall_succ]
  congr 1
  · exact rall_congr (fun i hi => by unfold hpk; rw [lAt_left hi, take_left' (by omega)])
  · unfold hpk; rw [lAt_last, take_left' (Nat.le_refl _), List.take_length]
theorem waitB_snoc (h l : List LK) (x : LK) : waitB h (l ++ [x]) = (waitB h l && (lkOk x && (!hasT l x.1 && (anyC h x || anyC l x)))) := by
  unfold waitB
  rw [List.length_append, show [x].length = 1 from rfl, rall_succ]
  congr 1
  · exact rall_congr (fun i hi => by unfold wpk; rw [lAt_left hi, take_left' (by omega)])
  · unfold wpk; rw [lAt_last, take_left' (Nat.le_refl _), List.take_length]
theorem anyC_snoc (h : List LK) (y x : LK) : anyC (h ++ [y]) x = (anyC h x || clash x y) := by simp [anyC]
theorem waitB_more {h l : List LK} (y : LK) (e : waitB h l = true) : waitB (h ++ [y]) l = true := by
  unfold waitB at e ⊢
  rw [List.all_eq_true] at e ⊢
  intro i hi
  have := e i hi
  unfold wpk at this ⊢
  rw [anyC_snoc]
  simp only [Bool.and_eq_true, Bool.or_eq_true] at this ⊢
  exact ⟨this.1, this.2.1, this.2.2.elim (fun q => .inl (.inl q)) .inr⟩
theorem lksOk_iff (h l : List LK) : lksOk h l = true ↔ (h.length + l.length ≤ 60 ∧ heldB h = true ∧ waitB h l = true) := by simp [lksOk]
/-- Asked for one lock more, a right table is right. -/
theorem askT_ok {h l : List LK} {x : LK} (hc : askC h l x = 0 ∨ askC h l x = 3) : lksOk (askT h l x).1 (askT h l x).2 = true := by
  unfold askC at hc
  unfold askT
  by_cases h1 : (lksOk h l && (lkOk x && !hasT l x.1)) = true
  · rw [if_pos h1] at hc ⊢
    by_cases h2 : h.length + l.length = 60
    · rw [if_pos h2] at hc; omega
    · rw [if_neg h2]
      simp only [Bool.and_eq_true] at h1
      obtain ⟨h3, h4, h5⟩ := h1
      obtain ⟨k1, k2, k3⟩ := (lksOk_iff h l).1 h3
      unfold putL
      by_cases h6 : mustW h l x = true
      · rw [if_pos h6]
        refine (lksOk_iff _ _).2 ⟨by simp; omega, k2, ?_⟩
        rw [waitB_snoc, k3, h4, h5]
        simpa [mustW] using h6
      · rw [if_neg h6]
        have h7 : anyC h x = false ∧ anyC l x = false := by simpa [mustW] using h6
        refine (lksOk_iff _ _).2 ⟨by simp; omega, ?_, waitB_more x k3⟩
        rw [heldB_snoc, k2, h4, h7.1]
        rfl
  · rw [if_neg h1] at hc; omega
theorem concat_ind {P : List LK → Prop} (h0 : P []) (h1 : ∀ l x, P l → P (l ++ [x])) : ∀ l, P l := by
  intro l
  have : ∀ n (l : List LK), l.length = n → P l := by
    intro n
    induction n with
    | zero => intro l hl; rw [List.eq_nil_of_length_eq_zero hl]; exact h0
    | succ n ih =>
      intro l hl
      rcases List.eq_nil_or_concat l with rfl | ⟨l', x, rfl⟩
      · simp at hl
      · rw [List.concat_eq_append] at hl ⊢
        exact h1 l' x (ih l' (by simpa using hl))
  exact this _ l rfl
theorem heldB_iff : ∀ h : List LK, heldB h = true ↔ ((∀ x ∈ h, lkOk x = true) ∧ h.Pairwise (fun a b => clash b a = false)) := by
  refine concat_ind (by simp [heldB]) (fun l x ih => ?_)
  rw [heldB_snoc]
  simp only [Bool.and_eq_true, ih, List.pairwise_append, List.mem_append, List.mem_singleton]
  constructor
  · rintro ⟨⟨a1, a2⟩, a3, a4⟩
    refine ⟨fun y hy => hy.elim (a1 y) (fun e => e ▸ a3), a2, List.pairwise_singleton _ _, fun y hy z hz => ?_⟩
    subst hz
    have : anyC l z = false := by simpa using a4
    unfold anyC at this
    rw [List.any_eq_false] at this
    simpa using this y hy
  · rintro ⟨a1, a2, -, a4⟩
    refine ⟨⟨fun y hy => a1 y (.inl hy), a2⟩, a1 x (.inr rfl), ?_⟩
    have : anyC l x = false := by
      unfold anyC
      rw [List.any_eq_false]
      intro y hy
      simpa using a4 y hy x rfl
    simp [this]
theorem waitB_facts (h : List LK) : ∀ l : List LK, waitB h l = true → ((∀ x ∈ l, lkOk x = true) ∧ l.Pairwise (fun a b => a.1 ≠ b.1)) := by
  refine concat_ind (fun _ => by simp) (fun l x ih => ?_)
  rw [waitB_snoc]
  simp only [Bool.and_eq_true]
  rintro ⟨a0, a3, a4, -⟩
  obtain ⟨a1, a2⟩ := ih a0
  rw [List.pairwise_append]
  refine ⟨fun y hy => by
    rcases List.mem_append.1 hy with q | q
    · exact a1 y q
    · rw [List.mem_singleton.1 q]; exact a3, a2, List.pairwise_singleton _ _, fun y hy z hz => ?_⟩
  rw [List.mem_singleton.1 hz]
  have : hasT l x.1 = false := by simpa using a4
  unfold hasT at this
  rw [List.any_eq_false] at this
  simpa using this y hy
/-- Granting keeps a table right. -/
theorem grant_ok : ∀ (ys h l g : List LK), heldB h = true → waitB h l = true → (∀ y ∈ ys, lkOk y = true) → ys.Pairwise (fun a b => a.1 ≠ b.1) → (∀ y ∈ ys, hasT l y.1 = false) → h.length + l.length + ys.length ≤ 60 →
    lksOk (grant ys (h, l, g)).1 (grant ys (h, l, g)).2.1 = true := by
  intro ys
  induction ys with
  | nil =>
    intro h l g h1 h2 _ _ _ h6
    exact (lksOk_iff _ _).2 ⟨by simpa [grant] using h6, h1, h2⟩
  | cons y ys ih =>
    intro h l g h1 h2 h3 h4 h5 h6
    rw [List.pairwise_cons] at h4
    rw [grant]
    by_cases hm : mustW h l y = true
    · rw [if_pos hm]
      refine ih h (l ++ [y]) g h1 ?_ (fun z hz => h3 z (by simp [hz])) h4.2 (fun z hz => ?_) (by simp at h6 ⊢; omega)
      · rw [waitB_snoc, h2, h3 y (by simp), h5 y (by simp)]
        simpa [mustW] using hm
      · have q1 := h5 z (by simp [hz])
        have q2 := h4.1 z hz
        unfold hasT at q1 ⊢
        rw [List.any_append, q1]
        simpa using q2
    · rw [if_neg hm]
      have h7 : anyC h y = false ∧ anyC l y = false := by simpa [mustW] using hm
      refine ih (h ++ [y]) l (g ++ [y]) ?_ (waitB_more y h2) (fun z hz => h3 z (by simp [hz])) h4.2 (fun z hz => h5 z (by simp [hz])) (by simp at h6 ⊢; omega)
      rw [heldB_snoc, h1, h3 y (by simp), h7.1]
      rfl
theorem grant_mem : ∀ (ys h l g : List LK) (z : LK), (z ∈ (grant ys (h, l, g)).1 ∨ z ∈ (grant ys (h, l, g)).2.1) → z ∈ h ∨ z ∈ l ∨ z ∈ ys := by
  intro ys
  induction ys with
  | nil =>
    intro h l g z hz
    exact hz.elim .inl (fun q => .inr (.inl q))
  | cons y ys ih =>
    intro h l g z hz
    rw [grant] at hz
    by_cases hm : mustW h l y = true
    · rw [if_pos hm] at hz
      rcases ih _ _ _ z hz with q | q | q
      · exact .inl q
      · rcases List.mem_append.1 q with q | q
        · exact .inr (.inl q)
        · exact .inr (.inr (by rw [List.mem_singleton.1 q]; simp))
      · exact .inr (.inr (by simp [q]))
    · rw [if_neg hm] at hz
      rcases ih _ _ _ z hz with q | q | q
      · rcases List.mem_append.1 q with q | q
        · exact .inl q
        · exact .inr (.inr (by rw [List.mem_singleton.1 q]; simp))
      · exact .inr (.inl q)
      · exact .inr (.inr (by simp [q]))
/-- Freed, a right table is right, and who is freed has no lock in it. -/
theorem freeV_ok {h l : List LK} (t : TX) (e : lksOk h l = true) : lksOk (freeV h l t).1 (freeV h l t).2.1 = true ∧ ∀ z, (z ∈ (freeV h l t).1 ∨ z ∈ (freeV h l t).2.1) → z.1 ≠ t := by
  obtain ⟨k1, k2, k3⟩ := (lksOk_iff h l).1 e
  obtain ⟨a1, a2⟩ := (heldB_iff h).1 k2
  obtain ⟨b1, b2⟩ := waitB_facts h l k3
  unfold freeV
  rw [if_pos e]
  refine ⟨grant_ok _ _ _ _ ?_ (by simp [waitB]) (fun y hy => b1 y (List.mem_filter.1 hy).1) (b2.filter _) (fun y _ => rfl) ?_, fun z hz q => ?_⟩
  · exact (heldB_iff _).2 ⟨fun x hx => a1 x (List.mem_filter.1 hx).1, a2.filter _⟩
  · have q1 := List.length_filter_le (fun y : LK => !decide (y.1 = t)) h
    have q2 := List.length_filter_le (fun y : LK => !decide (y.1 = t)) l
    unfold others
    simp only [List.length_nil]
    omega
  · have hm : ∀ m : List LK, z ∈ others m t → False := fun m hq => by
      have := (List.mem_filter.1 hq).2
      simp [q] at this
    rcases grant_mem _ _ _ _ z hz with q | q | q
    · exact hm _ q
    · cases q
    · exact hm _ q
end Go.Proofs.Ytcpdedpgjaimkaa
/-
  Plain mathematics: what is granted stands in the order in which it waited, and is held.
-/
namespace Go.Proofs.Ytcpdedpgjaimkaa
set_option linter.unusedVariables false
/-- How far the granted locks are found, one behind the other, in what waited. -/
def atF (g : List LK) : List LK → Nat → Nat
  | [], a => a
  | y :: ys, a => atF g ys (if a < g.length ∧ lAt g a = y then a + 1 else a)
theorem atF_all (g : List LK) : ∀ (ys : List LK) (a : Nat), a ≤ g.length → (g.drop a).Sublist ys → atF g ys a = g.length := by
  intro ys
  induction ys with
  | nil =>
    intro a ha hs
    have := List.sublist_nil.1 hs
    have h2 : (g.drop a).length = 0 := by rw [this]; rfl
    rw [List.length_drop] at h2
    show a = g.length
    omega
  | cons y ys ih =>
    intro a ha hs
    rw [atF]
    by_cases hc : a < g.length ∧ lAt g a = y
    · rw [if_pos hc]
      refine ih (a + 1) (by omega) ?_
      have e : g.drop a = y :: g.drop (a + 1) := by
        rw [List.drop_eq_getElem_cons hc.1]
        congr 1
        have := hc.2
        simpa [lAt, hc.1] using this
      rw [e] at hs
      exact List.Sublist.of_cons_cons hs
    · rw [if_neg hc]
      refine ih a ha ?_
      by_cases hl : a < g.length
      · have e : g.drop a = lAt g a :: g.drop (a + 1) := by
          rw [List.drop_eq_getElem_cons hl]
          congr 1
          simp [lAt, hl]
        rw [e] at hs ⊢
        cases hs with
        | cons _ q => exact q
        | cons_cons _ q => exact absurd ⟨hl, rfl⟩ hc
      · rw [List.drop_eq_nil_of_le (by omega)]
        exact List.nil_sublist _
theorem grant_held : ∀ (ys h l g : List LK) (z : LK), z ∈ h → z ∈ (grant ys (h, l, g)).1 := by
  intro ys
  induction ys with
  | nil => intro h l g z hz; exact hz
  | cons y ys ih =>
    intro h l g z hz
    rw [grant]
    by_cases hm : mustW h l y = true
    · rw [if_pos hm]; exact ih _ _ _ z hz
    · rw [if_neg hm]; exact ih _ _ _ z (by simp [hz])
theorem grant_got : ∀ (ys h l g : List LK), ∃ r, (grant ys (h, l, g)).2.2 = g ++ r ∧ r.Sublist ys ∧ ∀ z ∈ r, z ∈ (grant ys (h, l, g)).1 := by
  intro ys
  induction ys with
  | nil => intro h l g; exact ⟨[], by simp [grant], List.Sublist.refl _, fun z hz => by cases hz⟩
  | cons y ys ih =>
    intro h l g
    rw [grant]
    by_cases hm : mustW h l y = true
    · rw [if_pos hm]
      obtain ⟨r, h1, h2, h3⟩ := ih h (l ++ [y]) g
      exact ⟨r, h1, h2.cons y, h3⟩
    · rw [if_neg hm]
      obtain ⟨r, h1, h2, h3⟩ := ih (h ++ [y]) l (g ++ [y])
      refine ⟨y :: r, by rw [h1]; simp, h2.cons_cons y, fun z hz => ?_⟩
      rcases List.mem_cons.1 hz with rfl | hz
      · exact grant_held _ _ _ _ z (by simp)
      · exact h3 z hz
/-- What LockFree grants: in the order in which it waited; held; none where the table is empty. -/
theorem freeV_got {h l : List LK} (t : TX) (e : lksOk h l = true) : atF (freeV h l t).2.2 l 0 = (freeV h l t).2.2.length ∧ ∀ z ∈ (freeV h l t).2.2, z ∈ (freeV h l t).1 := by
  unfold freeV
  rw [if_pos e]
  obtain ⟨r, h1, h2, h3⟩ := grant_got (others l t) (others h t) [] []
  rw [h1, List.nil_append]
  exact ⟨atF_all r l 0 (Nat.zero_le _) (by rw [List.drop_zero]; exact h2.trans List.filter_sublist), h3⟩
end Go.Proofs.Ytcpdedpgjaimkaa
/-
  Whether a range lies within another: the program's function and the specification's.
-/
namespace Go.Proofs.Ytcpdedpgjaimkaa
open Go.RowKit
def rIn (la ha lb hb : ByteArray) : Bool := rOk la ha && rOk lb hb && !Op.bytesLess la.toList lb.toList && (decide (hb.toList = []) || (!decide (ha.toList = []) && !Op.bytesLess hb.toList ha.toList))
/-- Two blocks: two ranges. -/
structure Duo (w v : World) (la ha lb hb : ByteArray) : Prop where
  bel : Below w.heap.size w v
  a : Blk v w.heap.size la ha
  b : Blk v (w.heap.size + 1) lb hb
theorem Duo.new (w : World) (la ha lb hb : ByteArray) : Duo w ((w.alloc (.cells #[.string la, .string ha] 27)).alloc (.cells #[.string lb, .string hb] 27)) la ha lb hb :=
  ⟨below_new (below_new (Below.refl _ _)), (Blk.new w la ha).alloc _, by have := Blk.new (w.alloc (.cells #[.string la, .string ha] 27)) lb hb; simpa using this⟩
theorem Duo.step {w v v' : World} {la ha lb hb : ByteArray} (h : Duo w v la ha lb hb) (k : Below v.heap.size v v') : Duo w v' la ha lb hb := ⟨h.bel.trans (k.mono h.bel.size), h.a.kept k, h.b.kept k⟩
theorem beq_self_eq_true' (x : ByteArray) : (x == x) = true := by
  first
  | (simp [ByteArray.instBEq]; done)
  | (unfold ByteArray.instBEq; simp; done)
  | (show (x.data == x.data) = true; simp; done)
theorem beq_ne' {x y : ByteArray} (e : ¬ x = y) : (x == y) = false := by
  first
  | (simp [ByteArray.instBEq]; exact e; done)
  | (show (x.data == y.data) = false; simp only [beq_eq_false_iff_ne, ne_eq]; intro h; exact e (by cases x; cases y; simp at h; rw [h]); done)
theorem eql_key (x y : ByteArray) (w : World) : (binOp .eql 98 (.iface 173 (.string x)) (.iface 173 (.string y))).run Try.prog w = .ok (.bool (x == y)) w := by kernel_rfl
theorem eql_no (w : World) : (binOp .eql 98 (.iface 175 (.agg #[])) (.iface 175 (.agg #[]))).run Try.prog w = .ok (.bool true) w := by kernel_rfl
theorem eql_kn (x : ByteArray) (w : World) : (binOp .eql 98 (.iface 173 (.string x)) (.iface 175 (.agg #[]))).run Try.prog w = .ok (.bool false) w := by kernel_rfl
theorem eql_nk (x : ByteArray) (w : World) : (binOp .eql 98 (.iface 175 (.agg #[])) (.iface 173 (.string x))).run Try.prog w = .ok (.bool false) w := by kernel_rfl
theorem eql_end (x y : ByteArray) (w : World) : (binOp .eql 98 (endV x) (endV y)).run Try.prog w = .ok (.bool (decide (x = y))) w := by
  by_cases hx : x.toList = []
  · by_cases hy : y.toList = []
    · rw [show endV x = .iface 175 (.agg #[]) from if_pos hx, show endV y = .iface 175 (.agg #[]) from if_pos hy, eql_no, decide_eq_true (str_ext (hx.trans hy.symm))]
    · rw [show endV x = .iface 175 (.agg #[]) from if_pos hx, show endV y = .iface 173 (.string y) from if_neg hy, eql_nk, decide_eq_false (fun e : x = y => hy (by rw [← e]; exact hx))]
  · by_cases hy : y.toList = []
    · rw [show endV x = .iface 173 (.string x) from if_neg hx, show endV y = .iface 175 (.agg #[]) from if_pos hy, eql_kn, decide_eq_false (fun e : x = y => hx (by rw [e]; exact hy))]
    · rw [show endV x = .iface 173 (.string x) from if_neg hx, show endV y = .iface 173 (.string y) from if_neg hy, eql_key]
      congr 2
      by_cases e : x = y
      · subst e; rw [decide_eq_true rfl]; exact beq_self_eq_true' x
      · rw [decide_eq_false e]; exact beq_ne' e
theorem guard_end (x y : ByteArray) (w : World) : (eqGuard BinOp.eql 98 (Operand.tmp 23) (Operand.tmp 25) (endV x) (endV y)).run Try.prog w = .ok () w := by
  by_cases hx : x.toList = []
  · by_cases hy : y.toList = []
    · rw [show endV x = .iface 175 (.agg #[]) from if_pos hx, show endV y = .iface 175 (.agg #[]) from if_pos hy]; kernel_rfl
    · rw [show endV x = .iface 175 (.agg #[]) from if_pos hx, show endV y = .iface 173 (.string y) from if_neg hy]; kernel_rfl
  · by_cases hy : y.toList = []
    · rw [show endV x = .iface 173 (.string x) from if_neg hx, show endV y = .iface 175 (.agg #[]) from if_pos hy]; kernel_rfl
    · rw [show endV x = .iface 173 (.string x) from if_neg hx, show endV y = .iface 173 (.string y) from if_neg hy]; kernel_rfl
theorem Duo.cells {w v : World} {la ha lb hb : ByteArray} (T : Duo w v la ha lb hb) :
    v.cell? ⟨w.heap.size, 0, none⟩ = some (.string la) ∧ v.cell? ⟨w.heap.size, 1, none⟩ = some (.string ha) ∧ v.cell? ⟨w.heap.size + 1, 0, none⟩ = some (.string lb) ∧ v.cell? ⟨w.heap.size + 1, 1, none⟩ = some (.string hb) ∧ Duo w v la ha lb hb :=
  ⟨T.a.facts.1, T.a.facts.2.1, T.b.facts.1, T.b.facts.2.1, T⟩
theorem Duo.call {w v v' : World} {la ha lb hb : ByteArray} (k : Below v.heap.size v v') (h : v.cell? ⟨w.heap.size, 0, none⟩ = some (.string la) ∧ v.cell? ⟨w.heap.size, 1, none⟩ = some (.string ha) ∧ v.cell? ⟨w.heap.size + 1, 0, none⟩ = some (.string lb) ∧ v.cell? ⟨w.heap.size + 1, 1, none⟩ = some (.string hb) ∧ Duo w v la ha lb hb) :
    v'.cell? ⟨w.heap.size, 0, none⟩ = some (.string la) ∧ v'.cell? ⟨w.heap.size, 1, none⟩ = some (.string ha) ∧ v'.cell? ⟨w.heap.size + 1, 0, none⟩ = some (.string lb) ∧ v'.cell? ⟨w.heap.size + 1, 1, none⟩ = some (.string hb) ∧ Duo w v' la ha lb hb := (h.2.2.2.2.step k).cells
theorem Duo.of {w v : World} {la ha lb hb : ByteArray} (h : v.cell? ⟨w.heap.size, 0, none⟩ = some (.string la) ∧ v.cell? ⟨w.heap.size, 1, none⟩ = some (.string ha) ∧ v.cell? ⟨w.heap.size + 1, 0, none⟩ = some (.string lb) ∧ v.cell? ⟨w.heap.size + 1, 1, none⟩ = some (.string hb) ∧ Duo w v la ha lb hb) : Duo w v la ha lb hb := h.2.2.2.2
theorem take_no {P : Program} {md : Region.Mode} {ops : Array Oper} {Q : Exit → Act → World → Prop} {S : World → Prop} {i : Nat} {oi : Oper} {fuel : Nat} {listed : Array Bool} {a : Act} {w : World} (hi : ops[i]? = some oi)
    (hs : Region.noSelect ops = true) (hf : Region.free md ops listed i = true) (hr : (Region.ready md ops listed).contains i = true)
    (hQ : ∀ c a w, Q (.panic c) (a.put oi.dst undef) w → Q (.panic c) a w) (hw : Region.wanted oi (yielded ops a.tmps) = false) (hS : S w)
    (h : wpAnyH P md ops Q S fuel (listed.setIfInBounds i true) (a.put oi.dst undef) w) : wpAnyH P md ops Q S (fuel + 1) listed a w :=
  wpAnyH_take hi hs hf hr hQ (Or.inr ⟨hw, rfl⟩) hS h
set_option maxHeartbeats 8000000 in
theorem implRangeIn_no1 (la ha lb hb : ByteArray) (w : World) (h1 : rOk la ha = false) : Calls Try.prog 144 #[rng la ha, rng lb hb] w fun e w' => e = .returned (.bool false) ∧ Below w.heap.size w w' := by
  show Calls Try.prog 144 #[.agg #[.string la, .string ha], .agg #[.string lb, .string hb]] w _
  have T0 := hid (Duo.new w la ha lb hb)
  have HA := hid (fun w => implRangeOk_any la ha w)
  have HB := hid (fun w => implRangeOk_any lb hb w)
  rw [h1] at HA
  go_enter Try.func144, Try.ntmps144
  go_wp2_with fail
  generalize (w.alloc (.cells #[.string la, .string ha] 27)).alloc (.cells #[.string lb, .string hb] 27) = v0 at T0 ⊢
  refine wp_region_noPanic ?_
  refine wp_region_held_drew (S := fun v => v.cell? ⟨w.heap.size, 0, none⟩ = some (.string la) ∧ v.cell? ⟨w.heap.size, 1, none⟩ = some (.string ha) ∧ v.cell? ⟨w.heap.size + 1, 0, none⟩ = some (.string lb) ∧ v.cell? ⟨w.heap.size + 1, 1, none⟩ = some (.string hb) ∧ Duo w v la ha lb hb) (by kernel_rfl) ?_ (fun hHeld => ?_)
  · exact (T0.out.step (below_drew _)).cells
  simp only [List.size_toArray, List.length_cons, List.length_nil, Array.replicate_succ, Array.replicate_zero, Nat.reduceAdd, List.push_toArray, List.nil_append, List.cons_append]
  refine wpAnyH_take (i := 0) (v := (.agg #[.string la, .string ha])) rfl (by kernel_rfl) (by kernel_rfl) (by kernel_rfl) (fun _ _ _ h => h) (Or.inl ⟨by rfl, ?_⟩) (by assumption) ?_
  · intro w hSw
    go_simp
  try simp only [List.getElem_toArray]
  try simp only [List.getElem_cons_succ]
  try simp only [List.getElem_cons_zero]
  try simp only [Act.put]
  try simp only [List.setIfInBounds_toArray]
  try simp only [List.set_cons_succ]
  try simp only [List.set_cons_zero]
  refine wpAnyH_ready (rs := [1]) (by kernel_rfl) (by simp) ?_
  refine AllReadyH.cons rfl (fun K1 hK => ?_) AllReadyH.nil
  go_simp
  refine (HA.out _).mono ?_
  rintro e w' ⟨rfl, hbC⟩
  go_wp2_with fail
  refine hK.out _ _ ?_ (fun hHeld => ?_)
  · exact Duo.call hbC (by assumption)
  clear hK K1
  try simp only [List.getElem_toArray]
  try simp only [List.getElem_cons_succ]
  try simp only [List.getElem_cons_zero]
  try simp only [Act.put]
  try simp only [List.setIfInBounds_toArray]
  try simp only [List.set_cons_succ]
  try simp only [List.set_cons_zero]
  refine wpAnyH_take (i := 2) (v := .bool false) rfl (by kernel_rfl) (by kernel_rfl) (by kernel_rfl) (fun _ _ _ h => h) (Or.inl ⟨by rfl, ?_⟩) (by assumption) ?_
  · intro w hSw
    go_simp
  try simp only [List.getElem_toArray]
  try simp only [List.getElem_cons_succ]
  try simp only [List.getElem_cons_zero]
  try simp only [Act.put]
  try simp only [List.setIfInBounds_toArray]
  try simp only [List.set_cons_succ]
  try simp only [List.set_cons_zero]
  refine take_no (i := 3) rfl (by kernel_rfl) (by kernel_rfl) (by kernel_rfl) (fun _ _ _ h => h) (by rfl) (by assumption) ?_
  try simp only [List.getElem_toArray]
  try simp only [List.getElem_cons_succ]
  try simp only [List.getElem_cons_zero]
  try simp only [Act.put]
  try simp only [List.setIfInBounds_toArray]
  try simp only [List.set_cons_succ]
  try simp only [List.set_cons_zero]
  refine take_no (i := 4) rfl (by kernel_rfl) (by kernel_rfl) (by kernel_rfl) (fun _ _ _ h => h) (by rfl) (by assumption) ?_
  try simp only [List.getElem_toArray]
  try simp only [List.getElem_cons_succ]
  try simp only [List.getElem_cons_zero]
  try simp only [Act.put]
  try simp only [List.setIfInBounds_toArray]
  try simp only [List.set_cons_succ]
  try simp only [List.set_cons_zero]
  refine wpAnyH_take (i := 5) (v := .bool false) rfl (by kernel_rfl) (by kernel_rfl) (by kernel_rfl) (fun _ _ _ h => h) (Or.inl ⟨by rfl, ?_⟩) (by assumption) ?_
  · intro w hSw
    go_simp
  try simp only [List.getElem_toArray]
  try simp only [List.getElem_cons_succ]
  try simp only [List.getElem_cons_zero]
  try simp only [Act.put]
  try simp only [List.setIfInBounds_toArray]
  try simp only [List.set_cons_succ]
  try simp only [List.set_cons_zero]
  refine wpAnyH_take (i := 6) (v := .bool false) rfl (by kernel_rfl) (by kernel_rfl) (by kernel_rfl) (fun _ _ _ h => h) (Or.inl ⟨by rfl, ?_⟩) (by assumption) ?_
  · intro w hSw
    go_simp
  try simp only [List.getElem_toArray]
  try simp only [List.getElem_cons_succ]
  try simp only [List.getElem_cons_zero]
  try simp only [Act.put]
  try simp only [List.setIfInBounds_toArray]
  try simp only [List.set_cons_succ]
  try simp only [List.set_cons_zero]
  refine take_no (i := 7) rfl (by kernel_rfl) (by kernel_rfl) (by kernel_rfl) (fun _ _ _ h => h) (by rfl) (by assumption) ?_
  try simp only [List.getElem_toArray]
  try simp only [List.getElem_cons_succ]
  try simp only [List.getElem_cons_zero]
  try simp only [Act.put]
  try simp only [List.setIfInBounds_toArray]
  try simp only [List.set_cons_succ]
  try simp only [List.set_cons_zero]
  refine take_no (i := 8) rfl (by kernel_rfl) (by kernel_rfl) (by kernel_rfl) (fun _ _ _ h => h) (by rfl) (by assumption) ?_
  try simp only [List.getElem_toArray]
  try simp only [List.getElem_cons_succ]
  try simp only [List.getElem_cons_zero]
  try simp only [Act.put]
  try simp only [List.setIfInBounds_toArray]
  try simp only [List.set_cons_succ]
  try simp only [List.set_cons_zero]
  refine take_no (i := 9) rfl (by kernel_rfl) (by kernel_rfl) (by kernel_rfl) (fun _ _ _ h => h) (by rfl) (by assumption) ?_
  try simp only [List.getElem_toArray]
  try simp only [List.getElem_cons_succ]
  try simp only [List.getElem_cons_zero]
  try simp only [Act.put]
  try simp only [List.setIfInBounds_toArray]
  try simp only [List.set_cons_succ]
  try simp only [List.set_cons_zero]
  refine take_no (i := 10) rfl (by kernel_rfl) (by kernel_rfl) (by kernel_rfl) (fun _ _ _ h => h) (by rfl) (by assumption) ?_
  try simp only [List.getElem_toArray]
  try simp only [List.getElem_cons_succ]
  try simp only [List.getElem_cons_zero]
  try simp only [Act.put]
  try simp only [List.setIfInBounds_toArray]
  try simp only [List.set_cons_succ]
  try simp only [List.set_cons_zero]
  refine take_no (i := 11) rfl (by kernel_rfl) (by kernel_rfl) (by kernel_rfl) (fun _ _ _ h => h) (by rfl) (by assumption) ?_
  try simp only [List.getElem_toArray]
  try simp only [List.getElem_cons_succ]
  try simp only [List.getElem_cons_zero]
  try simp only [Act.put]
  try simp only [List.setIfInBounds_toArray]
  try simp only [List.set_cons_succ]
  try simp only [List.set_cons_zero]
  refine wpAnyH_take (i := 12) (v := .bool false) rfl (by kernel_rfl) (by kernel_rfl) (by kernel_rfl) (fun _ _ _ h => h) (Or.inl ⟨by rfl, ?_⟩) (by assumption) ?_
  · intro w hSw
    go_simp
  try simp only [List.getElem_toArray]
  try simp only [List.getElem_cons_succ]
  try simp only [List.getElem_cons_zero]
  try simp only [Act.put]
  try simp only [List.setIfInBounds_toArray]
  try simp only [List.set_cons_succ]
  try simp only [List.set_cons_zero]
  refine wpAnyH_take (i := 13) (v := .bool false) rfl (by kernel_rfl) (by kernel_rfl) (by kernel_rfl) (fun _ _ _ h => h) (Or.inl ⟨by rfl, ?_⟩) (by assumption) ?_
  · intro w hSw
    go_simp
  try simp only [List.getElem_toArray]
  try simp only [List.getElem_cons_succ]
  try simp only [List.getElem_cons_zero]
  try simp only [Act.put]
  try simp only [List.setIfInBounds_toArray]
  try simp only [List.set_cons_succ]
  try simp only [List.set_cons_zero]
  refine take_no (i := 14) rfl (by kernel_rfl) (by kernel_rfl) (by kernel_rfl) (fun _ _ _ h => h) (by rfl) (by assumption) ?_
  try simp only [List.getElem_toArray]
  try simp only [List.getElem_cons_succ]
  try simp only [List.getElem_cons_zero]
  try simp only [Act.put]
  try simp only [List.setIfInBounds_toArray]
  try simp only [List.set_cons_succ]
  try simp only [List.set_cons_zero]
  refine take_no (i := 15) rfl (by kernel_rfl) (by kernel_rfl) (by kernel_rfl) (fun _ _ _ h => h) (by rfl) (by assumption) ?_
  try simp only [List.getElem_toArray]
  try simp only [List.getElem_cons_succ]
  try simp only [List.getElem_cons_zero]
  try simp only [Act.put]
  try simp only [List.setIfInBounds_toArray]
  try simp only [List.set_cons_succ]
  try simp only [List.set_cons_zero]
  refine take_no (i := 16) rfl (by kernel_rfl) (by kernel_rfl) (by kernel_rfl) (fun _ _ _ h => h) (by rfl) (by assumption) ?_
  try simp only [List.getElem_toArray]
  try simp only [List.getElem_cons_succ]
  try simp only [List.getElem_cons_zero]
  try simp only [Act.put]
  try simp only [List.setIfInBounds_toArray]
  try simp only [List.set_cons_succ]
  try simp only [List.set_cons_zero]
  refine take_no (i := 17) rfl (by kernel_rfl) (by kernel_rfl) (by kernel_rfl) (fun _ _ _ h => h) (by rfl) (by assumption) ?_
  try simp only [List.getElem_toArray]
  try simp only [List.getElem_cons_succ]
  try simp only [List.getElem_cons_zero]
  try simp only [Act.put]
  try simp only [List.setIfInBounds_toArray]
  try simp only [List.set_cons_succ]
  try simp only [List.set_cons_zero]
  refine take_no (i := 18) rfl (by kernel_rfl) (by kernel_rfl) (by kernel_rfl) (fun _ _ _ h => h) (by rfl) (by assumption) ?_
  try simp only [List.getElem_toArray]
  try simp only [List.getElem_cons_succ]
  try simp only [List.getElem_cons_zero]
  try simp only [Act.put]
  try simp only [List.setIfInBounds_toArray]
  try simp only [List.set_cons_succ]
  try simp only [List.set_cons_zero]
  refine take_no (i := 19) rfl (by kernel_rfl) (by kernel_rfl) (by kernel_rfl) (fun _ _ _ h => h) (by rfl) (by assumption) ?_
  try simp only [List.getElem_toArray]
  try simp only [List.getElem_cons_succ]
  try simp only [List.getElem_cons_zero]
  try simp only [Act.put]
  try simp only [List.setIfInBounds_toArray]
  try simp only [List.set_cons_succ]
  try simp only [List.set_cons_zero]
  refine take_no (i := 20) rfl (by kernel_rfl) (by kernel_rfl) (by kernel_rfl) (fun _ _ _ h => h) (by rfl) (by assumption) ?_
  try simp only [List.getElem_toArray]
  try simp only [List.getElem_cons_succ]
  try simp only [List.getElem_cons_zero]
  try simp only [Act.put]
  try simp only [List.setIfInBounds_toArray]
  try simp only [List.set_cons_succ]
  try simp only [List.set_cons_zero]
  refine take_no (i := 21) rfl (by kernel_rfl) (by kernel_rfl) (by kernel_rfl) (fun _ _ _ h => h) (by rfl) (by assumption) ?_
  try simp only [List.getElem_toArray]
  try simp only [List.getElem_cons_succ]
  try simp only [List.getElem_cons_zero]
  try simp only [Act.put]
  try simp only [List.setIfInBounds_toArray]
  try simp only [List.set_cons_succ]
  try simp only [List.set_cons_zero]
  refine wpAnyH_take (i := 22) (v := .bool false) rfl (by kernel_rfl) (by kernel_rfl) (by kernel_rfl) (fun _ _ _ h => h) (Or.inl ⟨by rfl, ?_⟩) (by assumption) ?_
  · intro w hSw
    go_simp
  try simp only [List.getElem_toArray]
  try simp only [List.getElem_cons_succ]
  try simp only [List.getElem_cons_zero]
  try simp only [Act.put]
  try simp only [List.setIfInBounds_toArray]
  try simp only [List.set_cons_succ]
  try simp only [List.set_cons_zero]
  refine wpAnyH_take (i := 23) (v := .bool false) rfl (by kernel_rfl) (by kernel_rfl) (by kernel_rfl) (fun _ _ _ h => h) (Or.inl ⟨by rfl, ?_⟩) (by assumption) ?_
  · intro w hSw
    go_simp
  try simp only [List.getElem_toArray]
  try simp only [List.getElem_cons_succ]
  try simp only [List.getElem_cons_zero]
  try simp only [Act.put]
  try simp only [List.setIfInBounds_toArray]
  try simp only [List.set_cons_succ]
  try simp only [List.set_cons_zero]
  refine wpAnyH_done (by kernel_rfl) ?_ _
  refine NoPanic.normal ?_
  have hB := hid (Duo.of (by assumption)).bel
  go_wp2
  go_ret
  exact ⟨rfl, hB.out⟩
set_option maxHeartbeats 8000000 in
theorem implRangeIn_no2 (la ha lb hb : ByteArray) (w : World) (h1 : rOk la ha = true) (h2 : rOk lb hb = false) : Calls Try.prog 144 #[rng la ha, rng lb hb] w fun e w' => e = .returned (.bool false) ∧ Below w.heap.size w w' := by
  show Calls Try.prog 144 #[.agg #[.string la, .string ha], .agg #[.string lb, .string hb]] w _
  have T0 := hid (Duo.new w la ha lb hb)
  have HA := hid (fun w => implRangeOk_any la ha w)
  have HB := hid (fun w => implRangeOk_any lb hb w)
  rw [h1] at HA
  rw [h2] at HB
  go_enter Try.func144, Try.ntmps144
  go_wp2_with fail
  generalize (w.alloc (.cells #[.string la, .string ha] 27)).alloc (.cells #[.string lb, .string hb] 27) = v0 at T0 ⊢
  refine wp_region_noPanic ?_
  refine wp_region_held_drew (S := fun v => v.cell? ⟨w.heap.size, 0, none⟩ = some (.string la) ∧ v.cell? ⟨w.heap.size, 1, none⟩ = some (.string ha) ∧ v.cell? ⟨w.heap.size + 1, 0, none⟩ = some (.string lb) ∧ v.cell? ⟨w.heap.size + 1, 1, none⟩ = some (.string hb) ∧ Duo w v la ha lb hb) (by kernel_rfl) ?_ (fun hHeld => ?_)
  · exact (T0.out.step (below_drew _)).cells
  simp only [List.size_toArray, List.length_cons, List.length_nil, Array.replicate_succ, Array.replicate_zero, Nat.reduceAdd, List.push_toArray, List.nil_append, List.cons_append]
  refine wpAnyH_take (i := 0) (v := (.agg #[.string la, .string ha])) rfl (by kernel_rfl) (by kernel_rfl) (by kernel_rfl) (fun _ _ _ h => h) (Or.inl ⟨by rfl, ?_⟩) (by assumption) ?_
  · intro w hSw
    go_simp
  try simp only [List.getElem_toArray]
  try simp only [List.getElem_cons_succ]
  try simp only [List.getElem_cons_zero]
  try simp only [Act.put]
  try simp only [List.setIfInBounds_toArray]
  try simp only [List.set_cons_succ]
  try simp only [List.set_cons_zero]
  refine wpAnyH_ready (rs := [1]) (by kernel_rfl) (by simp) ?_
  refine AllReadyH.cons rfl (fun K1 hK => ?_) AllReadyH.nil
  go_simp
  refine (HA.out _).mono ?_
  rintro e w' ⟨rfl, hbC⟩
  go_wp2_with fail
  refine hK.out _ _ ?_ (fun hHeld => ?_)
  · exact Duo.call hbC (by assumption)
  clear hK K1
  try simp only [List.getElem_toArray]
  try simp only [List.getElem_cons_succ]
  try simp only [List.getElem_cons_zero]
  try simp only [Act.put]
  try simp only [List.setIfInBounds_toArray]
  try simp only [List.set_cons_succ]
  try simp only [List.set_cons_zero]
  refine wpAnyH_take (i := 2) (v := .bool true) rfl (by kernel_rfl) (by kernel_rfl) (by kernel_rfl) (fun _ _ _ h => h) (Or.inl ⟨by rfl, ?_⟩) (by assumption) ?_
  · intro w hSw
    go_simp
  try simp only [List.getElem_toArray]
  try simp only [List.getElem_cons_succ]
  try simp only [List.getElem_cons_zero]
  try simp only [Act.put]
  try simp only [List.setIfInBounds_toArray]
  try simp only [List.set_cons_succ]
  try simp only [List.set_cons_zero]
  refine wpAnyH_take (i := 3) (v := (.agg #[.string lb, .string hb])) rfl (by kernel_rfl) (by kernel_rfl) (by kernel_rfl) (fun _ _ _ h => h) (Or.inl ⟨by rfl, ?_⟩) (by assumption) ?_
  · intro w hSw
    go_simp
  try simp only [List.getElem_toArray]
  try simp only [List.getElem_cons_succ]
  try simp only [List.getElem_cons_zero]
  try simp only [Act.put]
  try simp only [List.setIfInBounds_toArray]
  try simp only [List.set_cons_succ]
  try simp only [List.set_cons_zero]
  refine wpAnyH_ready (rs := [4]) (by kernel_rfl) (by simp) ?_
  refine AllReadyH.cons rfl (fun K1 hK => ?_) AllReadyH.nil
  go_simp
  refine (HB.out _).mono ?_
  rintro e w' ⟨rfl, hbC⟩
  go_wp2_with fail
  refine hK.out _ _ ?_ (fun hHeld => ?_)
  · exact Duo.call hbC (by assumption)
  clear hK K1
  try simp only [List.getElem_toArray]
  try simp only [List.getElem_cons_succ]
  try simp only [List.getElem_cons_zero]
  try simp only [Act.put]
  try simp only [List.setIfInBounds_toArray]
  try simp only [List.set_cons_succ]
  try simp only [List.set_cons_zero]
  refine wpAnyH_take (i := 5) (v := .bool false) rfl (by kernel_rfl) (by kernel_rfl) (by kernel_rfl) (fun _ _ _ h => h) (Or.inl ⟨by rfl, ?_⟩) (by assumption) ?_
  · intro w hSw
    go_simp
  try simp only [List.getElem_toArray]
  try simp only [List.getElem_cons_succ]
  try simp only [List.getElem_cons_zero]
  try simp only [Act.put]
  try simp only [List.setIfInBounds_toArray]
  try simp only [List.set_cons_succ]
  try simp only [List.set_cons_zero]
  refine wpAnyH_take (i := 6) (v := .bool false) rfl (by kernel_rfl) (by kernel_rfl) (by kernel_rfl) (fun _ _ _ h => h) (Or.inl ⟨by rfl, ?_⟩) (by assumption) ?_
  · intro w hSw
    go_simp
  try simp only [List.getElem_toArray]
  try simp only [List.getElem_cons_succ]
  try simp only [List.getElem_cons_zero]
  try simp only [Act.put]
  try simp only [List.setIfInBounds_toArray]
  try simp only [List.set_cons_succ]
  try simp only [List.set_cons_zero]
  refine take_no (i := 7) rfl (by kernel_rfl) (by kernel_rfl) (by kernel_rfl) (fun _ _ _ h => h) (by rfl) (by assumption) ?_
  try simp only [List.getElem_toArray]
  try simp only [List.getElem_cons_succ]
  try simp only [List.getElem_cons_zero]
  try simp only [Act.put]
  try simp only [List.setIfInBounds_toArray]
  try simp only [List.set_cons_succ]
  try simp only [List.set_cons_zero]
  refine take_no (i := 8) rfl (by kernel_rfl) (by kernel_rfl) (by kernel_rfl) (fun _ _ _ h => h) (by rfl) (by assumption) ?_
  try simp only [List.getElem_toArray]
  try simp only [List.getElem_cons_succ]
  try simp only [List.getElem_cons_zero]
  try simp only [Act.put]
  try simp only [List.setIfInBounds_toArray]
  try simp only [List.set_cons_succ]
  try simp only [List.set_cons_zero]
  refine take_no (i := 9) rfl (by kernel_rfl) (by kernel_rfl) (by kernel_rfl) (fun _ _ _ h => h) (by rfl) (by assumption) ?_
  try simp only [List.getElem_toArray]
  try simp only [List.getElem_cons_succ]
  try simp only [List.getElem_cons_zero]
  try simp only [Act.put]
  try simp only [List.setIfInBounds_toArray]
  try simp only [List.set_cons_succ]
  try simp only [List.set_cons_zero]
  refine take_no (i := 10) rfl (by kernel_rfl) (by kernel_rfl) (by kernel_rfl) (fun _ _ _ h => h) (by rfl) (by assumption) ?_
  try simp only [List.getElem_toArray]
  try simp only [List.getElem_cons_succ]
  try simp only [List.getElem_cons_zero]
  try simp only [Act.put]
  try simp only [List.setIfInBounds_toArray]
  try simp only [List.set_cons_succ]
  try simp only [List.set_cons_zero]
  refine take_no (i := 11) rfl (by kernel_rfl) (by kernel_rfl) (by kernel_rfl) (fun _ _ _ h => h) (by rfl) (by assumption) ?_
  try simp only [List.getElem_toArray]
  try simp only [List.getElem_cons_succ]
  try simp only [List.getElem_cons_zero]
  try simp only [Act.put]
  try simp only [List.setIfInBounds_toArray]
  try simp only [List.set_cons_succ]
  try simp only [List.set_cons_zero]
  refine wpAnyH_take (i := 12) (v := .bool false) rfl (by kernel_rfl) (by kernel_rfl) (by kernel_rfl) (fun _ _ _ h => h) (Or.inl ⟨by rfl, ?_⟩) (by assumption) ?_
  · intro w hSw
    go_simp
  try simp only [List.getElem_toArray]
  try simp only [List.getElem_cons_succ]
  try simp only [List.getElem_cons_zero]
  try simp only [Act.put]
  try simp only [List.setIfInBounds_toArray]
  try simp only [List.set_cons_succ]
  try simp only [List.set_cons_zero]
  refine wpAnyH_take (i := 13) (v := .bool false) rfl (by kernel_rfl) (by kernel_rfl) (by kernel_rfl) (fun _ _ _ h => h) (Or.inl ⟨by rfl, ?_⟩) (by assumption) ?_
  · intro w hSw
    go_simp
  try simp only [List.getElem_toArray]
  try simp only [List.getElem_cons_succ]
  try simp only [List.getElem_cons_zero]
  try simp only [Act.put]
  try simp only [List.setIfInBounds_toArray]
  try simp only [List.set_cons_succ]
  try simp only [List.set_cons_zero]
  refine take_no (i := 14) rfl (by kernel_rfl) (by kernel_rfl) (by kernel_rfl) (fun _ _ _ h => h) (by rfl) (by assumption) ?_
  try simp only [List.getElem_toArray]
  try simp only [List.getElem_cons_succ]
  try simp only [List.getElem_cons_zero]
  try simp only [Act.put]
  try simp only [List.setIfInBounds_toArray]
  try simp only [List.set_cons_succ]
  try simp only [List.set_cons_zero]
  refine take_no (i := 15) rfl (by kernel_rfl) (by kernel_rfl) (by kernel_rfl) (fun _ _ _ h => h) (by rfl) (by assumption) ?_
  try simp only [List.getElem_toArray]
  try simp only [List.getElem_cons_succ]
  try simp only [List.getElem_cons_zero]
  try simp only [Act.put]
  try simp only [List.setIfInBounds_toArray]
  try simp only [List.set_cons_succ]
  try simp only [List.set_cons_zero]
  refine take_no (i := 16) rfl (by kernel_rfl) (by kernel_rfl) (by kernel_rfl) (fun _ _ _ h => h) (by rfl) (by assumption) ?_
  try simp only [List.getElem_toArray]
  try simp only [List.getElem_cons_succ]
  try simp only [List.getElem_cons_zero]
  try simp only [Act.put]
  try simp only [List.setIfInBounds_toArray]
  try simp only [List.set_cons_succ]
  try simp only [List.set_cons_zero]
  refine take_no (i := 17) rfl (by kernel_rfl) (by kernel_rfl) (by kernel_rfl) (fun _ _ _ h => h) (by rfl) (by assumption) ?_
  try simp only [List.getElem_toArray]
  try simp only [List.getElem_cons_succ]
  try simp only [List.getElem_cons_zero]
  try simp only [Act.put]
  try simp only [List.setIfInBounds_toArray]
  try simp only [List.set_cons_succ]
  try simp only [List.set_cons_zero]
  refine take_no (i := 18) rfl (by kernel_rfl) (by kernel_rfl) (by kernel_rfl) (fun _ _ _ h => h) (by rfl) (by assumption) ?_
  try simp only [List.getElem_toArray]
  try simp only [List.getElem_cons_succ]
  try simp only [List.getElem_cons_zero]
  try simp only [Act.put]
  try simp only [List.setIfInBounds_toArray]
  try simp only [List.set_cons_succ]
  try simp only [List.set_cons_zero]
  refine take_no (i := 19) rfl (by kernel_rfl) (by kernel_rfl) (by kernel_rfl) (fun _ _ _ h => h) (by rfl) (by assumption) ?_
  try simp only [List.getElem_toArray]
  try simp only [List.getElem_cons_succ]
  try simp only [List.getElem_cons_zero]
  try simp only [Act.put]
  try simp only [List.setIfInBounds_toArray]
  try simp only [List.set_cons_succ]
  try simp only [List.set_cons_zero]
  refine take_no (i := 20) rfl (by kernel_rfl) (by kernel_rfl) (by kernel_rfl) (fun _ _ _ h => h) (by rfl) (by assumption) ?_
  try simp only [List.getElem_toArray]
  try simp only [List.getElem_cons_succ]
  try simp only [List.getElem_cons_zero]
  try simp only [Act.put]
  try simp only [List.setIfInBounds_toArray]
  try simp only [List.set_cons_succ]
  try simp only [List.set_cons_zero]
  refine take_no (i := 21) rfl (by kernel_rfl) (by kernel_rfl) (by kernel_rfl) (fun _ _ _ h => h) (by rfl) (by assumption) ?_
  try simp only [List.getElem_toArray]
  try simp only [List.getElem_cons_succ]
  try simp only [List.getElem_cons_zero]
  try simp only [Act.put]
  try simp only [List.setIfInBounds_toArray]
  try simp only [List.set_cons_succ]
  try simp only [List.set_cons_zero]
  refine wpAnyH_take (i := 22) (v := .bool false) rfl (by kernel_rfl) (by kernel_rfl) (by kernel_rfl) (fun _ _ _ h => h) (Or.inl ⟨by rfl, ?_⟩) (by assumption) ?_
  · intro w hSw
    go_simp
  try simp only [List.getElem_toArray]
  try simp only [List.getElem_cons_succ]
  try simp only [List.getElem_cons_zero]
  try simp only [Act.put]
  try simp only [List.setIfInBounds_toArray]
  try simp only [List.set_cons_succ]
  try simp only [List.set_cons_zero]
  refine wpAnyH_take (i := 23) (v := .bool false) rfl (by kernel_rfl) (by kernel_rfl) (by kernel_rfl) (fun _ _ _ h => h) (Or.inl ⟨by rfl, ?_⟩) (by assumption) ?_
  · intro w hSw
    go_simp
  try simp only [List.getElem_toArray]
  try simp only [List.getElem_cons_succ]
  try simp only [List.getElem_cons_zero]
  try simp only [Act.put]
  try simp only [List.setIfInBounds_toArray]
  try simp only [List.set_cons_succ]
  try simp only [List.set_cons_zero]
  refine wpAnyH_done (by kernel_rfl) ?_ _
  refine NoPanic.normal ?_
  have hB := hid (Duo.of (by assumption)).bel
  go_wp2
  go_ret
  exact ⟨rfl, hB.out⟩
set_option maxHeartbeats 8000000 in
theorem implRangeIn_no3 (la ha lb hb : ByteArray) (w : World) (h1 : rOk la ha = true) (h2 : rOk lb hb = true) (h3 : Op.bytesLess la.toList lb.toList = true) : Calls Try.prog 144 #[rng la ha, rng lb hb] w fun e w' => e = .returned (.bool false) ∧ Below w.heap.size w w' := by
  show Calls Try.prog 144 #[.agg #[.string la, .string ha], .agg #[.string lb, .string hb]] w _
  have T0 := hid (Duo.new w la ha lb hb)
  have HA := hid (fun w => implRangeOk_any la ha w)
  have HB := hid (fun w => implRangeOk_any lb hb w)
  rw [h1] at HA
  rw [h2] at HB
  go_enter Try.func144, Try.ntmps144
  go_wp2_with fail
  generalize (w.alloc (.cells #[.string la, .string ha] 27)).alloc (.cells #[.string lb, .string hb] 27) = v0 at T0 ⊢
  refine wp_region_noPanic ?_
  refine wp_region_held_drew (S := fun v => v.cell? ⟨w.heap.size, 0, none⟩ = some (.string la) ∧ v.cell? ⟨w.heap.size, 1, none⟩ = some (.string ha) ∧ v.cell? ⟨w.heap.size + 1, 0, none⟩ = some (.string lb) ∧ v.cell? ⟨w.heap.size + 1, 1, none⟩ = some (.string hb) ∧ Duo w v la ha lb hb) (by kernel_rfl) ?_ (fun hHeld => ?_)
  · exact (T0.out.step (below_drew _)).cells
  simp only [List.size_toArray, List.length_cons, List.length_nil, Array.replicate_succ, Array.replicate_zero, Nat.reduceAdd, List.push_toArray, List.nil_append, List.cons_append]
  refine wpAnyH_take (i := 0) (v := (.agg #[.string la, .string ha])) rfl (by kernel_rfl) (by kernel_rfl) (by kernel_rfl) (fun _ _ _ h => h) (Or.inl ⟨by rfl, ?_⟩) (by assumption) ?_
  · intro w hSw
    go_simp
  try simp only [List.getElem_toArray]
  try simp only [List.getElem_cons_succ]
  try simp only [List.getElem_cons_zero]
  try simp only [Act.put]
  try simp only [List.setIfInBounds_toArray]
  try simp only [List.set_cons_succ]
  try simp only [List.set_cons_zero]
  refine wpAnyH_ready (rs := [1]) (by kernel_rfl) (by simp) ?_
  refine AllReadyH.cons rfl (fun K1 hK => ?_) AllReadyH.nil
  go_simp
  refine (HA.out _).mono ?_
  rintro e w' ⟨rfl, hbC⟩
  go_wp2_with fail
  refine hK.out _ _ ?_ (fun hHeld => ?_)
  · exact Duo.call hbC (by assumption)
  clear hK K1
  try simp only [List.getElem_toArray]
  try simp only [List.getElem_cons_succ]
  try simp only [List.getElem_cons_zero]
  try simp only [Act.put]
  try simp only [List.setIfInBounds_toArray]
  try simp only [List.set_cons_succ]
  try simp only [List.set_cons_zero]
  refine wpAnyH_take (i := 2) (v := .bool true) rfl (by kernel_rfl) (by kernel_rfl) (by kernel_rfl) (fun _ _ _ h => h) (Or.inl ⟨by rfl, ?_⟩) (by assumption) ?_
  · intro w hSw
    go_simp
  try simp only [List.getElem_toArray]
  try simp only [List.getElem_cons_succ]
  try simp only [List.getElem_cons_zero]
  try simp only [Act.put]
  try simp only [List.setIfInBounds_toArray]
  try simp only [List.set_cons_succ]
  try simp only [List.set_cons_zero]
  refine wpAnyH_take (i := 3) (v := (.agg #[.string lb, .string hb])) rfl (by kernel_rfl) (by kernel_rfl) (by kernel_rfl) (fun _ _ _ h => h) (Or.inl ⟨by rfl, ?_⟩) (by assumption) ?_
  · intro w hSw
    go_simp
  try simp only [List.getElem_toArray]
  try simp only [List.getElem_cons_succ]
  try simp only [List.getElem_cons_zero]
  try simp only [Act.put]
  try simp only [List.setIfInBounds_toArray]
  try simp only [List.set_cons_succ]
  try simp only [List.set_cons_zero]
  refine wpAnyH_ready (rs := [4]) (by kernel_rfl) (by simp) ?_
  refine AllReadyH.cons rfl (fun K1 hK => ?_) AllReadyH.nil
  go_simp
  refine (HB.out _).mono ?_
  rintro e w' ⟨rfl, hbC⟩
  go_wp2_with fail
  refine hK.out _ _ ?_ (fun hHeld => ?_)
  · exact Duo.call hbC (by assumption)
  clear hK K1
  try simp only [List.getElem_toArray]
  try simp only [List.getElem_cons_succ]
  try simp only [List.getElem_cons_zero]
  try simp only [Act.put]
  try simp only [List.setIfInBounds_toArray]
  try simp only [List.set_cons_succ]
  try simp only [List.set_cons_zero]
  refine wpAnyH_take (i := 5) (v := .bool true) rfl (by kernel_rfl) (by kernel_rfl) (by kernel_rfl) (fun _ _ _ h => h) (Or.inl ⟨by rfl, ?_⟩) (by assumption) ?_
  · intro w hSw
    go_simp
  try simp only [List.getElem_toArray]
  try simp only [List.getElem_cons_succ]
  try simp only [List.getElem_cons_zero]
  try simp only [Act.put]
  try simp only [List.setIfInBounds_toArray]
  try simp only [List.set_cons_succ]
  try simp only [List.set_cons_zero]
  refine wpAnyH_take (i := 6) (v := .bool true) rfl (by kernel_rfl) (by kernel_rfl) (by kernel_rfl) (fun _ _ _ h => h) (Or.inl ⟨by rfl, ?_⟩) (by assumption) ?_
  · intro w hSw
    go_simp
  try simp only [List.getElem_toArray]
  try simp only [List.getElem_cons_succ]
  try simp only [List.getElem_cons_zero]
  try simp only [Act.put]
  try simp only [List.setIfInBounds_toArray]
  try simp only [List.set_cons_succ]
  try simp only [List.set_cons_zero]
  refine wpAnyH_take (i := 7) (v := (.pointer (some ⟨w.heap.size, 0, none⟩))) rfl (by kernel_rfl) (by kernel_rfl) (by kernel_rfl) (fun _ _ _ h => h) (Or.inl ⟨by rfl, ?_⟩) (by assumption) ?_
  · intro w hSw
    go_simp
  try simp only [List.getElem_toArray]
  try simp only [List.getElem_cons_succ]
  try simp only [List.getElem_cons_zero]
  try simp only [Act.put]
  try simp only [List.setIfInBounds_toArray]
  try simp only [List.set_cons_succ]
  try simp only [List.set_cons_zero]
  refine wpAnyH_take (i := 8) (v := (.string la)) rfl (by kernel_rfl) (by kernel_rfl) (by kernel_rfl) (fun _ _ _ h => h) (Or.inl ⟨by rfl, ?_⟩) (by assumption) ?_
  · intro w hSw
    go_simp
  try simp only [List.getElem_toArray]
  try simp only [List.getElem_cons_succ]
  try simp only [List.getElem_cons_zero]
  try simp only [Act.put]
  try simp only [List.setIfInBounds_toArray]
  try simp only [List.set_cons_succ]
  try simp only [List.set_cons_zero]
  refine wpAnyH_take (i := 9) (v := (.pointer (some ⟨w.heap.size + 1, 0, none⟩))) rfl (by kernel_rfl) (by kernel_rfl) (by kernel_rfl) (fun _ _ _ h => h) (Or.inl ⟨by rfl, ?_⟩) (by assumption) ?_
  · intro w hSw
    go_simp
  try simp only [List.getElem_toArray]
  try simp only [List.getElem_cons_succ]
  try simp only [List.getElem_cons_zero]
  try simp only [Act.put]
  try simp only [List.setIfInBounds_toArray]
  try simp only [List.set_cons_succ]
  try simp only [List.set_cons_zero]
  refine wpAnyH_take (i := 10) (v := (.string lb)) rfl (by kernel_rfl) (by kernel_rfl) (by kernel_rfl) (fun _ _ _ h => h) (Or.inl ⟨by rfl, ?_⟩) (by assumption) ?_
  · intro w hSw
    go_simp
  try simp only [List.getElem_toArray]
  try simp only [List.getElem_cons_succ]
  try simp only [List.getElem_cons_zero]
  try simp only [Act.put]
  try simp only [List.setIfInBounds_toArray]
  try simp only [List.set_cons_succ]
  try simp only [List.set_cons_zero]
  refine wpAnyH_take (i := 11) (v := .bool false) rfl (by kernel_rfl) (by kernel_rfl) (by kernel_rfl) (fun _ _ _ h => h) (Or.inl ⟨by rfl, ?_⟩) (by assumption) ?_
  · intro w hSw
    go_simp
  try simp only [List.getElem_toArray]
  try simp only [List.getElem_cons_succ]
  try simp only [List.getElem_cons_zero]
  try simp only [Act.put]
  try simp only [List.setIfInBounds_toArray]
  try simp only [List.set_cons_succ]
  try simp only [List.set_cons_zero]
  refine wpAnyH_take (i := 12) (v := .bool false) rfl (by kernel_rfl) (by kernel_rfl) (by kernel_rfl) (fun _ _ _ h => h) (Or.inl ⟨by rfl, ?_⟩) (by assumption) ?_
  · intro w hSw
    go_simp
  try simp only [List.getElem_toArray]
  try simp only [List.getElem_cons_succ]
  try simp only [List.getElem_cons_zero]
  try simp only [Act.put]
  try simp only [List.setIfInBounds_toArray]
  try simp only [List.set_cons_succ]
  try simp only [List.set_cons_zero]
  refine wpAnyH_take (i := 13) (v := .bool false) rfl (by kernel_rfl) (by kernel_rfl) (by kernel_rfl) (fun _ _ _ h => h) (Or.inl ⟨by rfl, ?_⟩) (by assumption) ?_
  · intro w hSw
    go_simp
  try simp only [List.getElem_toArray]
  try simp only [List.getElem_cons_succ]
  try simp only [List.getElem_cons_zero]
  try simp only [Act.put]
  try simp only [List.setIfInBounds_toArray]
  try simp only [List.set_cons_succ]
  try simp only [List.set_cons_zero]
  refine take_no (i := 14) rfl (by kernel_rfl) (by kernel_rfl) (by kernel_rfl) (fun _ _ _ h => h) (by rfl) (by assumption) ?_
  try simp only [List.getElem_toArray]
  try simp only [List.getElem_cons_succ]
  try simp only [List.getElem_cons_zero]
  try simp only [Act.put]
  try simp only [List.setIfInBounds_toArray]
  try simp only [List.set_cons_succ]
  try simp only [List.set_cons_zero]
  refine take_no (i := 15) rfl (by kernel_rfl) (by kernel_rfl) (by kernel_rfl) (fun _ _ _ h => h) (by rfl) (by assumption) ?_
  try simp only [List.getElem_toArray]
  try simp only [List.getElem_cons_succ]
  try simp only [List.getElem_cons_zero]
  try simp only [Act.put]
  try simp only [List.setIfInBounds_toArray]
  try simp only [List.set_cons_succ]
  try simp only [List.set_cons_zero]
  refine take_no (i := 16) rfl (by kernel_rfl) (by kernel_rfl) (by kernel_rfl) (fun _ _ _ h => h) (by rfl) (by assumption) ?_
  try simp only [List.getElem_toArray]
  try simp only [List.getElem_cons_succ]
  try simp only [List.getElem_cons_zero]
  try simp only [Act.put]
  try simp only [List.setIfInBounds_toArray]
  try simp only [List.set_cons_succ]
  try simp only [List.set_cons_zero]
  refine take_no (i := 17) rfl (by kernel_rfl) (by kernel_rfl) (by kernel_rfl) (fun _ _ _ h => h) (by rfl) (by assumption) ?_
  try simp only [List.getElem_toArray]
  try simp only [List.getElem_cons_succ]
  try simp only [List.getElem_cons_zero]
  try simp only [Act.put]
  try simp only [List.setIfInBounds_toArray]
  try simp only [List.set_cons_succ]
  try simp only [List.set_cons_zero]
  refine take_no (i := 18) rfl (by kernel_rfl) (by kernel_rfl) (by kernel_rfl) (fun _ _ _ h => h) (by rfl) (by assumption) ?_
  try simp only [List.getElem_toArray]
  try simp only [List.getElem_cons_succ]
  try simp only [List.getElem_cons_zero]
  try simp only [Act.put]
  try simp only [List.setIfInBounds_toArray]
  try simp only [List.set_cons_succ]
  try simp only [List.set_cons_zero]
  refine take_no (i := 19) rfl (by kernel_rfl) (by kernel_rfl) (by kernel_rfl) (fun _ _ _ h => h) (by rfl) (by assumption) ?_
  try simp only [List.getElem_toArray]
  try simp only [List.getElem_cons_succ]
  try simp only [List.getElem_cons_zero]
  try simp only [Act.put]
  try simp only [List.setIfInBounds_toArray]
  try simp only [List.set_cons_succ]
  try simp only [List.set_cons_zero]
  refine take_no (i := 20) rfl (by kernel_rfl) (by kernel_rfl) (by kernel_rfl) (fun _ _ _ h => h) (by rfl) (by assumption) ?_
  try simp only [List.getElem_toArray]
  try simp only [List.getElem_cons_succ]
  try simp only [List.getElem_cons_zero]
  try simp only [Act.put]
  try simp only [List.setIfInBounds_toArray]
  try simp only [List.set_cons_succ]
  try simp only [List.set_cons_zero]
  refine take_no (i := 21) rfl (by kernel_rfl) (by kernel_rfl) (by kernel_rfl) (fun _ _ _ h => h) (by rfl) (by assumption) ?_
  try simp only [List.getElem_toArray]
  try simp only [List.getElem_cons_succ]
  try simp only [List.getElem_cons_zero]
  try simp only [Act.put]
  try simp only [List.setIfInBounds_toArray]
  try simp only [List.set_cons_succ]
  try simp only [List.set_cons_zero]
  refine wpAnyH_take (i := 22) (v := .bool false) rfl (by kernel_rfl) (by kernel_rfl) (by kernel_rfl) (fun _ _ _ h => h) (Or.inl ⟨by rfl, ?_⟩) (by assumption) ?_
  · intro w hSw
    go_simp
  try simp only [List.getElem_toArray]
  try simp only [List.getElem_cons_succ]
  try simp only [List.getElem_cons_zero]
  try simp only [Act.put]
  try simp only [List.setIfInBounds_toArray]
  try simp only [List.set_cons_succ]
  try simp only [List.set_cons_zero]
  refine wpAnyH_take (i := 23) (v := .bool false) rfl (by kernel_rfl) (by kernel_rfl) (by kernel_rfl) (fun _ _ _ h => h) (Or.inl ⟨by rfl, ?_⟩) (by assumption) ?_
  · intro w hSw
    go_simp
  try simp only [List.getElem_toArray]
  try simp only [List.getElem_cons_succ]
  try simp only [List.getElem_cons_zero]
  try simp only [Act.put]
  try simp only [List.setIfInBounds_toArray]
  try simp only [List.set_cons_succ]
  try simp only [List.set_cons_zero]
  refine wpAnyH_done (by kernel_rfl) ?_ _
  refine NoPanic.normal ?_
  have hB := hid (Duo.of (by assumption)).bel
  go_wp2
  go_ret
  exact ⟨rfl, hB.out⟩
set_option maxHeartbeats 8000000 in
theorem implRangeIn_yes (la ha lb hb : ByteArray) (w : World) (h1 : rOk la ha = true) (h2 : rOk lb hb = true) (h3 : Op.bytesLess la.toList lb.toList = false) : Calls Try.prog 144 #[rng la ha, rng lb hb] w fun e w' => e = .returned (.bool (decide (lsr ha hb = ha))) ∧ Below w.heap.size w w' := by
  show Calls Try.prog 144 #[.agg #[.string la, .string ha], .agg #[.string lb, .string hb]] w _
  have T0 := hid (Duo.new w la ha lb hb)
  have HA := hid (fun w => implRangeOk_any la ha w)
  have HB := hid (fun w => implRangeOk_any lb hb w)
  have heq := eql_end (lsr ha hb) ha
  have hgd := guard_end (lsr ha hb) ha
  rw [h1] at HA
  rw [h2] at HB
  go_enter Try.func144, Try.ntmps144
  go_wp2_with fail
  generalize (w.alloc (.cells #[.string la, .string ha] 27)).alloc (.cells #[.string lb, .string hb] 27) = v0 at T0 ⊢
  go_region_held3 (fun v => v.cell? ⟨w.heap.size, 0, none⟩ = some (.string la) ∧ v.cell? ⟨w.heap.size, 1, none⟩ = some (.string ha) ∧ v.cell? ⟨w.heap.size + 1, 0, none⟩ = some (.string lb) ∧ v.cell? ⟨w.heap.size + 1, 1, none⟩ = some (.string hb) ∧ Duo w v la ha lb hb)
    (first | assumption | exact (T0.out.step (below_drew _)).cells | exact Duo.call hbC (by assumption))
    (first
      | (go_at_call_of 45 (Value.agg #[Value.string la, Value.string ha]); refine (HA.out _).mono ?_; rintro e w' ⟨rfl, hbC⟩)
      | (go_at_call_of 45 (Value.agg #[Value.string lb, Value.string hb]); refine (HB.out _).mono ?_; rintro e w' ⟨rfl, hbC⟩)
      | (go_at_call_of 48 (Value.agg #[Value.string la, Value.string ha]); refine (endOf_any la ha _).mono ?_; rintro e w' ⟨rfl, hbC⟩)
      | (go_at_call_of 48 (Value.agg #[Value.string lb, Value.string hb]); refine (endOf_any lb hb _).mono ?_; rintro e w' ⟨rfl, hbC⟩)
      | (go_at_call 169; refine (lesserEnd_any ha hb _).mono ?_; rintro e w' ⟨rfl, hbC⟩))
  all_goals (rename_i hS; have hB := hid (Duo.of hS).bel; clear hS; go_wp2; go_ret; exact ⟨rfl, hB.out⟩)
theorem lsr_self (ha hb : ByteArray) : decide (lsr ha hb = ha) = (decide (hb.toList = []) || (!decide (ha.toList = []) && !Op.bytesLess hb.toList ha.toList)) := by
  unfold lsr
  by_cases h1 : ha.toList = []
  · rw [if_pos h1]
    by_cases h2 : hb.toList = []
    · rw [decide_eq_true (str_ext (h2.trans h1.symm)), decide_eq_true h2]; rfl
    · rw [decide_eq_false (fun e : hb = ha => h2 (by rw [e]; exact h1)), decide_eq_false h2, decide_eq_true h1]; rfl
  · rw [if_neg h1, decide_eq_false h1]
    by_cases h2 : hb.toList = []
    · rw [if_pos (by simp [ahd, h2]), decide_eq_true h2]; simp
    · rw [decide_eq_false h2]
      rcases tri ha hb with t | t | t
      · rw [if_pos (by simp [ahd, t.1]), t.2.1]; simp
      · subst t; rw [less_irrefl]; simp
      · rw [if_neg (by simp [ahd, h2, t.1]), t.2.1]
        rw [decide_eq_false (fun e : hb = ha => by have := t.2.1; rw [e, less_irrefl] at this; cases this)]; rfl
theorem implRangeIn_any (la ha lb hb : ByteArray) (w : World) : Calls Try.prog 144 #[rng la ha, rng lb hb] w fun e w' => e = .returned (.bool (rIn la ha lb hb)) ∧ Below w.heap.size w w' := by
  cases h1 : rOk la ha
  · rw [show rIn la ha lb hb = false by simp [rIn, h1]]; exact implRangeIn_no1 la ha lb hb w h1
  · cases h2 : rOk lb hb
    · rw [show rIn la ha lb hb = false by simp [rIn, h2]]; exact implRangeIn_no2 la ha lb hb w h1 h2
    · cases h3 : Op.bytesLess la.toList lb.toList
      · rw [show rIn la ha lb hb = decide (lsr ha hb = ha) by rw [lsr_self]; unfold rIn; rw [h1, h2, h3]; rfl]; exact implRangeIn_yes la ha lb hb w h1 h2 h3
      · rw [show rIn la ha lb hb = false by simp [rIn, h3]]; exact implRangeIn_no3 la ha lb hb w h1 h2 h3
end Go.Proofs.Ytcpdedpgjaimkaa
/-
  Plain mathematics: a lock that is held is had; what LockAsk changes of what is had.
-/
namespace Go.Proofs.Ytcpdedpgjaimkaa
set_option linter.unusedVariables false
theorem rIn_self {lo hi : ByteArray} (h : rOk lo hi = true) : rIn lo hi lo hi = true := by
  unfold rIn
  rw [h, less_irrefl, less_irrefl]
  cases decide (hi.toList = []) <;> rfl
/-- One of the row is of t, has the range from lo to hi within its own, and is exclusive where ex is asked. -/
def hadF (t : TX) (lo hi : ByteArray) (ex : Bool) (y : LK) : Bool := decide (y.1 = t) && ((y.2.2 || !ex) && rIn lo hi y.2.1.1 y.2.1.2)
theorem hadF_self {y : LK} (h : lkOk y = true) : hadF y.1 y.2.1.1 y.2.1.2 y.2.2 y = true := by
  unfold lkOk at h
  simp only [Bool.and_eq_true] at h
  unfold hadF
  rw [rIn_self h.2]
  cases y.2.2 <;> simp
/-- Every lock that is held in a right table is had. -/
theorem had_held {h l : List LK} (e : lksOk h l = true) {y : LK} (hy : y ∈ h) : h.any (hadF y.1 y.2.1.1 y.2.1.2 y.2.2) = true := by
  obtain ⟨-, k2, -⟩ := (lksOk_iff h l).1 e
  rw [List.any_eq_true]
  exact ⟨y, hy, hadF_self (((heldB_iff h).1 k2).1 y hy)⟩
/-- What is had behind LockAsk. -/
theorem ask_had {h l : List LK} {x : LK} (hc : askC h l x = 0 ∨ askC h l x = 3) : (askT h l x).1.any (hadF x.1 x.2.1.1 x.2.1.2 x.2.2) = (decide (askC h l x = 0) || h.any (hadF x.1 x.2.1.1 x.2.1.2 x.2.2)) := by
  have h0 := askT_ok hc
  unfold askC at hc ⊢
  unfold askT at h0 ⊢
  by_cases h1 : (lksOk h l && (lkOk x && !hasT l x.1)) = true
  · rw [if_pos h1] at hc h0 ⊢
    rw [if_pos h1]
    by_cases h2 : h.length + l.length = 60
    · rw [if_pos h2] at hc; omega
    · rw [if_neg h2] at hc h0 ⊢
      rw [if_neg h2]
      unfold putL at h0 ⊢
      by_cases h6 : mustW h l x = true
      · rw [if_pos h6, if_pos h6]; simp
      · rw [if_neg h6] at h0
        rw [if_neg h6, if_neg h6]
        have := had_held h0 (y := x) (by simp)
        rw [this]; simp
  · rw [if_neg h1] at hc; omega
end Go.Proofs.Ytcpdedpgjaimkaa
/-
  What is known of names of transactions, of locks and of tables of locks that come in as arguments.
-/
namespace Go.Proofs.Ytcpdedpgjaimkaa
open Go.ChangeShapes Go.WideShapes Go.ChangeAt Go.RowKit
theorem arrX3 {α : Type} {cs : Array α} (h : cs.size = 3) : ∃ a b c, cs = #[a, b, c] := by
  obtain ⟨l⟩ := cs
  match l, h with
  | [a, b, c], _ => exact ⟨a, b, c, rfl⟩
theorem arrX6 {α : Type} {cs : Array α} (h : cs.size = 6) : ∃ a b c d e f, cs = #[a, b, c, d, e, f] := by
  obtain ⟨l⟩ := cs
  match l, h with
  | [a, b, c, d, e, f], _ => exact ⟨a, b, c, d, e, f, rfl⟩
theorem arrX2 {α : Type} {cs : Array α} (h : cs.size = 2) : ∃ a b, cs = #[a, b] := by
  obtain ⟨l⟩ := cs
  match l, h with
  | [a, b], _ => exact ⟨a, b, rfl⟩
end Go.Proofs.Ytcpdedpgjaimkaa
/-
  What the law's helpers do with locks, rows of locks and tables: sizes summed, copied, held against each other; rows of one's own.
-/
namespace Go.Proofs.Ytcpdedpgjaimkaa
open Go.RowKit
set_option linter.unusedVariables false
theorem ownL_base {w : World} {B B' : Nat} {e : TypeId} {size : Nat} {v : Value} {n : Nat} {xs : List Value} (h : w.ownsRow B e size v n xs) (hB : B' ≤ B) : w.ownsRow B' e size v n xs := by
  refine ⟨h.1, h.2.imp id ?_⟩
  rintro ⟨g, cap, cur, k1, k2, k3⟩
  exact ⟨g, cap, cur, k1, by omega, k3⟩
theorem ownL_bk {w : World} {g B : Nat} {T : TypeId} {xs : List Value} {n size : Nat} (h : Bk w g T xs) (hl : xs.length = n * size) (hn : n ≤ 1048577) (hB : B ≤ g) : w.ownsRow B T size (.slice (some ⟨g, 0, none⟩) n n) n xs :=
  ⟨hl, .inr ⟨g, n, xs.toArray, rfl, hB, h, Nat.le_refl _, by unfold maxLen; omega, by simpa using hl, by simp [← hl]⟩⟩
theorem ownL_set {w : World} {B : Nat} {E : TypeId} {s g n c m : Nat} {xs : List Value} (h : w.ownsRow B E s (.slice (some ⟨g, 0, none⟩) n c) m xs) (j : Nat) (u : Value) : (w.setCell ⟨g, j, none⟩ u).ownsRow B E s (.slice (some ⟨g, 0, none⟩) n c) m (xs.set j u) := by
  obtain ⟨k1, k2⟩ := h
  rcases k2 with ⟨k2, _⟩ | ⟨g', cap, cur, e, k3, k4, k5, k6, k7, k8⟩
  · cases k2
  · cases e
    refine ⟨by simpa using k1, .inr ⟨g, c, cur.setIfInBounds j u, rfl, k3, ?_, k5, k6, by simpa using k7, ?_⟩⟩
    · simp [World.setCell, Array.getElem?_modify, k4]
    · rw [← k8]
      simp only [Array.toList_setIfInBounds, List.take_set]
theorem ownL_at {w : World} {B : Nat} {E : TypeId} {s : Nat} {a : Option Addr} {n c m : Nat} {xs : List Value} (h : w.ownsRow B E s (.slice a n c) m xs) : n = m ∧ n ≤ c ∧ c ≤ 9223372036854775807 ∧ (0 < n → ∃ g, a = some ⟨g, 0, none⟩ ∧ B ≤ g ∧ g < w.heap.size ∧ (∀ o, w.frozen? ⟨g, o, none⟩ = false) ∧ ∀ (j : Nat) u, xs[j]? = some u → w.cell? ⟨g, j, none⟩ = some u) := by
  have hc := fun g hg => World.ownsRow.cells h (g := g) hg
  have hlt := World.ownsRow.lt h
  rcases h.2 with ⟨e, e2⟩ | ⟨g, cap, cur, e, hB, hg, k5, k6, k7, k8⟩
  · cases e; exact ⟨e2.symm, Nat.le_refl _, by omega, fun h => by omega⟩
  · have e2 : a = some ⟨g, 0, none⟩ ∧ n = m ∧ c = cap := by cases e; exact ⟨rfl, rfl, rfl⟩
    obtain ⟨rfl, rfl, rfl⟩ := e2
    refine ⟨rfl, k5, by unfold maxLen at k6; omega, fun _ => ⟨g, rfl, hB, (hlt g rfl).2, fun o => by simp [World.frozen?, hg], fun j u hu => ?_⟩⟩
    have := hc g rfl j u hu
    rwa [Addr.add_lit, Nat.zero_add] at this
/-- A row of locks of one's own. -/
def LW (w : World) (B : Nat) (v : Value) (l : List LK) : Prop := w.ownsRow B 75 6 v l.length (lcs l)
theorem LW.to {w w' : World} {B : Nat} {R : Nat → Prop} {v : Value} {l : List LK} (h : LW w B v l) (ho : Only R w w') (hR : ∀ y, v.ownBlock = some y → ¬ R y) : LW w' B v l := own_kept h ho hR
theorem LW.below {w w' : World} {B : Nat} {v : Value} {l : List LK} (h : LW w B v l) (hb : Below w.heap.size w w') : LW w' B v l := h.to (only_of_below hb (fun _ => False)) (fun _ _ h => h)
theorem LW.base {w : World} {B B' : Nat} {v : Value} {l : List LK} (h : LW w B v l) (hB : B' ≤ B) : LW w B' v l := ownL_base h hB
theorem LW.lt {w : World} {B : Nat} {v : Value} {l : List LK} (h : LW w B v l) {y : Nat} (hy : v.ownBlock = some y) : B ≤ y ∧ y < w.heap.size := World.ownsRow.lt h y hy
theorem LW.lr {w : World} {B : Nat} {v : Value} {l : List LK} (h : LW w B v l) : Lr w (fun _ => True) v l := rw_own h (fun _ _ _ _ => trivial)
theorem lw_nil (w : World) (B : Nat) : LW w B (.slice none 0 0) [] := World.ownsRow_nil _ _ _ _
/-- A table of locks of one's own, its two rows apart. -/
structure LO (w : World) (B : Nat) (h v : Value) (hl wl : List LK) : Prop where
  hh : LW w B h hl
  hw : LW w B v wl
  apart : ∀ y, h.ownBlock = some y → v.ownBlock ≠ some y
def lbl (h v : Value) (y : Nat) : Prop := h.ownBlock = some y ∨ v.ownBlock = some y
theorem LO.to {w w' : World} {B : Nat} {R : Nat → Prop} {h v : Value} {hl wl : List LK} (H : LO w B h v hl wl) (ho : Only R w w') (hR : ∀ y, lbl h v y → ¬ R y) : LO w' B h v hl wl := ⟨H.hh.to ho (fun y e => hR y (.inl e)), H.hw.to ho (fun y e => hR y (.inr e)), H.apart⟩
theorem LO.below {w w' : World} {B : Nat} {h v : Value} {hl wl : List LK} (H : LO w B h v hl wl) (hb : Below w.heap.size w w') : LO w' B h v hl wl := ⟨H.hh.below hb, H.hw.below hb, H.apart⟩
theorem LO.base {w : World} {B B' : Nat} {h v : Value} {hl wl : List LK} (H : LO w B h v hl wl) (hB : B' ≤ B) : LO w B' h v hl wl := ⟨H.hh.base hB, H.hw.base hB, H.apart⟩
theorem LO.lt {w : World} {B : Nat} {h v : Value} {hl wl : List LK} (H : LO w B h v hl wl) {y : Nat} (hy : lbl h v y) : B ≤ y ∧ y < w.heap.size := by
  rcases hy with e | e
  · exact H.hh.lt e
  · exact H.hw.lt e
theorem lo_nil (w : World) (B : Nat) : LO w B (.slice none 0 0) (.slice none 0 0) [] [] := ⟨lw_nil w B, lw_nil w B, fun y h => by cases h⟩
theorem infoLockI : (Try.prog.info? 75).map (fun i => (i.zero, i.size, i.bytes)) = some (some (.agg #[.int .i64 0, .int .i64 0, .int .i64 0, .string ⟨#[]⟩, .string ⟨#[]⟩, .bool false]), 6, 64) := by kernel_rfl
theorem made_locks (n : Nat) : madeCells (Value.agg #[.int .i64 0, .int .i64 0, .int .i64 0, .string ⟨#[]⟩, .string ⟨#[]⟩, .bool false]).cells (n * 6) = (lcs (List.replicate n lk0)).toArray := by
  apply Array.ext
  · simp [madeCells, lcs_length]
  · intro i h1 h2
    simp [lcs_length] at h2
    simp only [madeCells, List.getElem_toArray]
    have hq : lAt (List.replicate n lk0) (i / 6) = lk0 := by simp [lAt, show i / 6 < n by omega]
    have h0 := lcs_at (List.replicate n lk0) (i / 6) (by simp; omega)
    rw [hq] at h0
    have h3 : i % 6 = 0 ∨ i % 6 = 1 ∨ i % 6 = 2 ∨ i % 6 = 3 ∨ i % 6 = 4 ∨ i % 6 = 5 := by omega
    rcases h3 with e | e | e | e | e | e
    · have h4 := List.getElem?_eq_some_iff.1 (show (lcs (List.replicate n lk0))[i]? = some (.int .i64 0) by rw [show i / 6 * 6 = i by omega] at h0; exact h0.1)
      rw [h4.2]
      simp [Value.cells, e]
    · have h4 := List.getElem?_eq_some_iff.1 (show (lcs (List.replicate n lk0))[i]? = some (.int .i64 0) by rw [show i / 6 * 6 + 1 = i by omega] at h0; exact h0.2.1)
      rw [h4.2]
      simp [Value.cells, e]
    · have h4 := List.getElem?_eq_some_iff.1 (show (lcs (List.replicate n lk0))[i]? = some (.int .i64 0) by rw [show i / 6 * 6 + 2 = i by omega] at h0; exact h0.2.2.1)
      rw [h4.2]
      simp [Value.cells, e]
    · have h4 := List.getElem?_eq_some_iff.1 (show (lcs (List.replicate n lk0))[i]? = some (.string ⟨#[]⟩) by rw [show i / 6 * 6 + 3 = i by omega] at h0; exact h0.2.2.2.1)
      rw [h4.2]
      simp [Value.cells, e]
    · have h4 := List.getElem?_eq_some_iff.1 (show (lcs (List.replicate n lk0))[i]? = some (.string ⟨#[]⟩) by rw [show i / 6 * 6 + 4 = i by omega] at h0; exact h0.2.2.2.2.1)
      rw [h4.2]
      simp [Value.cells, e]
    · have h4 := List.getElem?_eq_some_iff.1 (show (lcs (List.replicate n lk0))[i]? = some (.bool false) by rw [show i / 6 * 6 + 5 = i by omega] at h0; exact h0.2.2.2.2.2)
      rw [h4.2]
      simp [Value.cells, e]
/-- The locks as far as copied. -/
def ptL (l : List LK) (k : Nat) : List LK := l.take k ++ List.replicate (l.length - k) lk0
theorem ptL_length (l : List LK) (k : Nat) (h : k ≤ l.length) : (ptL l k).length = l.length := by simp [ptL]; omega
theorem ptL_set (l : List LK) (k : Nat) (h : k < l.length) : (ptL l k).set k (lAt l k) = ptL l (k + 1) := by
  have e : lAt l k = l[k] := by simp [lAt, h]
  rw [e]
  have hl : (l.take k).length = k := by simp; omega
  simp only [ptL]
  rw [List.set_append_right _ _ (by omega), hl]
  have h2 : l.length - k = (l.length - (k + 1)) + 1 := by omega
  rw [List.take_succ_eq_append_getElem h, h2, List.replicate_succ, Nat.sub_self, List.set_cons_zero, List.append_assoc]
  rfl
theorem load_lock {w : World} {g : Nat} (c e n : Int) (lo hi : ByteArray) (ex : Bool) (c0 : w.cell? ⟨g, 0, none⟩ = some (.int .i64 c)) (c1 : w.cell? ⟨g, 1, none⟩ = some (.int .i64 e)) (c2 : w.cell? ⟨g, 2, none⟩ = some (.int .i64 n)) (c3 : w.cell? ⟨g, 3, none⟩ = some (.string lo)) (c4 : w.cell? ⟨g, 4, none⟩ = some (.string hi)) (c5 : w.cell? ⟨g, 5, none⟩ = some (.bool ex)) :
    (loadVar 75 ⟨g, 0, none⟩).run Try.prog w = .ok (.agg #[.int .i64 c, .int .i64 e, .int .i64 n, .string lo, .string hi, .bool ex]) w := by go_simp
theorem results_lock {fn : Func} {p : Tmp} (h : fn.results = #[.cell p 75]) (tmps : Array Value) (w : World) (g : Nat) {c e n : Int} {lo hi : ByteArray} {ex : Bool} (hp : tmps.getD p undef = .pointer (some ⟨g, 0, none⟩))
    (c0 : w.cell? ⟨g, 0, none⟩ = some (.int .i64 c)) (c1 : w.cell? ⟨g, 1, none⟩ = some (.int .i64 e)) (c2 : w.cell? ⟨g, 2, none⟩ = some (.int .i64 n)) (c3 : w.cell? ⟨g, 3, none⟩ = some (.string lo)) (c4 : w.cell? ⟨g, 4, none⟩ = some (.string hi)) (c5 : w.cell? ⟨g, 5, none⟩ = some (.bool ex)) : (results fn tmps).run Try.prog w = .ok (.agg #[.int .i64 c, .int .i64 e, .int .i64 n, .string lo, .string hi, .bool ex]) w := by
  have hp' : tmps[p]?.getD undef = .pointer (some ⟨g, 0, none⟩) := by simpa using hp
  simp [results, h, hp', asAddr, load_lock c e n lo hi ex c0 c1 c2 c3 c4 c5]
theorem results_locks {fn : Func} {p : Tmp} (h : fn.results = #[.cell p 71]) (tmps : Array Value) (w : World) (g : Nat) {x y : Value} (hp : tmps.getD p undef = .pointer (some ⟨g, 0, none⟩))
    (c0 : w.cell? ⟨g, 0, none⟩ = some x) (c1 : w.cell? ⟨g, 1, none⟩ = some y) : (results fn tmps).run Try.prog w = .ok (.agg #[x, y]) w := by
  have hp' : tmps[p]?.getD undef = .pointer (some ⟨g, 0, none⟩) := by simpa using hp
  have hl : (loadVar 71 ⟨g, 0, none⟩).run Try.prog w = .ok (.agg #[x, y]) w := by go_simp
  simp [results, h, hp', asAddr, hl]
theorem results_locks2 {fn : Func} {p q : Tmp} (h : fn.results = #[.cell p 71, .tmp q]) (tmps : Array Value) (w : World) (g : Nat) {x y z : Value} (hp : tmps.getD p undef = .pointer (some ⟨g, 0, none⟩)) (hq : tmps.getD q undef = z)
    (c0 : w.cell? ⟨g, 0, none⟩ = some x) (c1 : w.cell? ⟨g, 1, none⟩ = some y) : (results fn tmps).run Try.prog w = .ok (.tuple #[.agg #[x, y], z]) w := by
  have hp' : tmps[p]?.getD undef = .pointer (some ⟨g, 0, none⟩) := by simpa using hp
  have hq' : tmps[q]?.getD undef = z := by simpa using hq
  have hl : (loadVar 71 ⟨g, 0, none⟩).run Try.prog w = .ok (.agg #[x, y]) w := by go_simp
  simp [results, h, hp', hq', asAddr, hl, Result.andThen]
end Go.Proofs.Ytcpdedpgjaimkaa
/-
  The range that two ranges have in common: the program's own function, where the common range has no end.
-/
namespace Go.Proofs.Ytcpdedpgjaimkaa
open Go.RowKit

set_option maxHeartbeats 40000000 in
theorem implRangeBoth_no (la ha lb hb : ByteArray) (w : World) (hls : (lsr ha hb).toList = []) : Calls Try.prog 188 #[rng la ha, rng lb hb] w fun e w' => e = .returned (.tuple #[rng (bLo la ha lb hb) (bHi la ha lb hb), .bool (bth la ha lb hb)]) ∧ Below w.heap.size w w' := by
  show Calls Try.prog 188 #[.agg #[.string la, .string ha], .agg #[.string lb, .string hb]] w _
  have HE : Hid (bth la ha lb hb = (rOk la ha && rOk lb hb && rOk (mxl la lb) (lsr ha hb))) := rfl
  have HF : Hid (bth la ha lb hb = false → Value.tuple #[rng (bLo la ha lb hb) (bHi la ha lb hb), .bool (bth la ha lb hb)] = .tuple #[rng ⟨#[]⟩ ⟨#[]⟩, .bool false]) := fun h => by simp [bLo, bHi, h]
  have HT : Hid (bth la ha lb hb = true → Value.tuple #[rng (bLo la ha lb hb) (bHi la ha lb hb), .bool (bth la ha lb hb)] = .tuple #[rng (mxl la lb) (lsr ha hb), .bool true]) := fun h => by simp [bLo, bHi, h]
  have T0 := hid (Trio.new w la ha lb hb)
  go_enter Try.func188, Try.ntmps188
  go_wp2_with fail
  refine (implRangeOk_any la ha _).mono ?_
  generalize ((w.alloc (.cells #[.string la, .string ha] 27)).alloc (.cells #[.string lb, .string hb] 27)).alloc (.cells #[.string ⟨#[]⟩, .string ⟨#[]⟩] 27) = v0 at T0 ⊢
  rintro e v1 ⟨rfl, hb1⟩
  have T1 := hid (T0.out.step hb1)
  clear T0 hb1 v0
  obtain ⟨a0, a1, _, _⟩ := T1.out.a.facts
  obtain ⟨b0, b1, _, _⟩ := T1.out.b.facts
  obtain ⟨r0, r1, r2, r3⟩ := T1.out.r.facts
  cases h1 : rOk la ha
  · rw [h1] at HE
    go_wp2
    try simp only [Exit.inBlock, Exit.then]
    refine bodyPost_ret (v := .tuple #[rng ⟨#[]⟩ ⟨#[]⟩, .bool false]) ?_ rfl ?_
    · exact results_rng_bool rfl _ _ _ rfl rfl (by go_simp) (by go_simp)
    · exact ⟨by rw [HF.out (by rw [HE.out]; rfl)], (T1.out.bel.setCell (by simp; omega) _).setCell (by simp; omega) _⟩
  · rw [h1] at HE
    go_wp2_with fail
    refine (implRangeOk_any lb hb _).mono ?_
    rintro e v2 ⟨rfl, hb2⟩
    have T2 := hid (T1.out.step hb2)
    clear T1 hb2 a0 a1 b0 b1 r0 r1 r2 r3
    obtain ⟨a0, a1, _, _⟩ := T2.out.a.facts
    obtain ⟨b0, b1, _, _⟩ := T2.out.b.facts
    obtain ⟨r0, r1, r2, r3⟩ := T2.out.r.facts
    cases h2 : rOk lb hb
    · rw [h2] at HE
      go_wp2
      try simp only [Exit.inBlock, Exit.then]
      refine bodyPost_ret (v := .tuple #[rng ⟨#[]⟩ ⟨#[]⟩, .bool false]) ?_ rfl ?_
      · exact results_rng_bool rfl _ _ _ rfl rfl (by go_simp) (by go_simp)
      · exact ⟨by rw [HF.out (by rw [HE.out]; rfl)], (T2.out.bel.setCell (by simp; omega) _).setCell (by simp; omega) _⟩
    · rw [h2] at HE
      have hmax := run_mxl #[9, 9] 9 la lb
      have hm := method_no
      have HX : Hid (lsr ha hb = ⟨#[]⟩) := str_ext (by rw [hls, ByteArray.toList_eq])
      have HL := hid (fun w => lesserEnd_any ha hb w)
      rw [show endV (lsr ha hb) = .iface 175 (.agg #[]) from if_pos hls] at HL
      have hz0 := T2.out.r.lt
      have hz1 : w.heap.size + 1 + 1 < v2.drew.heap.size := hz0
      go_wp2_with fail
      go_cut [6] (fun p v => ∃ g, p = .pointer (some ⟨g, 0, none⟩) ∧ v.cell? ⟨g, 0, none⟩ = some (.string (mxl la lb)) ∧ v.cell? ⟨g, 1, none⟩ = some (.string ⟨#[]⟩) ∧ Trio w v la ha lb hb)
      case first =>
        go_region_held3 (fun v => v.cell? ⟨w.heap.size, 0, none⟩ = some (.string la) ∧ v.cell? ⟨w.heap.size, 1, none⟩ = some (.string ha) ∧ v.cell? ⟨w.heap.size + 1, 0, none⟩ = some (.string lb) ∧ v.cell? ⟨w.heap.size + 1, 1, none⟩ = some (.string hb) ∧ Trio w v la ha lb hb)
          (first | assumption | exact (T2.out.step (below_drew _)).cells | exact Trio.call hbC (by assumption) | exact Trio.call (below_alloc _ _) (by assumption) | exact Trio.swap (by assumption) (by assumption) | exact Trio.sets (by assumption) (by assumption))
          (first
            | (go_at_call_of 48 (Value.agg #[Value.string la, Value.string ha]); refine (endOf_any la ha _).mono ?_; rintro e w' ⟨rfl, hbC⟩; have hz := Trio.big (w := w) hbC (by assumption); first | (with_reducible refine s2q_then hbC ?_; intro q0 q1 q2 q3) | (with_reducible refine s2d_then hbC ?_; intro q0 q1 q2 q3) | (with_reducible refine keep4_then hbC q0 q1 q2 q3 ?_; intro q0 q1 q2 q3) | skip)
            | (go_at_call_of 48 (Value.agg #[Value.string lb, Value.string hb]); refine (endOf_any lb hb _).mono ?_; rintro e w' ⟨rfl, hbC⟩; have hz := Trio.big (w := w) hbC (by assumption); first | (with_reducible refine s2q_then hbC ?_; intro q0 q1 q2 q3) | (with_reducible refine s2d_then hbC ?_; intro q0 q1 q2 q3) | (with_reducible refine keep4_then hbC q0 q1 q2 q3 ?_; intro q0 q1 q2 q3) | skip)
            | (go_at_call 169; refine (HL.out _).mono ?_; rintro e w' ⟨rfl, hbC⟩; have hz := Trio.big (w := w) hbC (by assumption); first | (with_reducible refine s2q_then hbC ?_; intro q0 q1 q2 q3) | (with_reducible refine s2d_then hbC ?_; intro q0 q1 q2 q3) | (with_reducible refine keep4_then hbC q0 q1 q2 q3 ?_; intro q0 q1 q2 q3) | skip)
            | (go_at_call 207; refine (hiNo_any _).mono ?_; rintro e w' ⟨rfl, hbC⟩; have hz := Trio.big (w := w) hbC (by assumption); first | (with_reducible refine s2q_then hbC ?_; intro q0 q1 q2 q3) | (with_reducible refine s2d_then hbC ?_; intro q0 q1 q2 q3) | (with_reducible refine keep4_then hbC q0 q1 q2 q3 ?_; intro q0 q1 q2 q3) | skip))
        all_goals (go_wp2_with fail; go_meet; refine ⟨_, rfl, ?_, ?_, Trio.of (by assumption)⟩ <;> go_simp)
      case rest =>
        clear a0 a1 b0 b1 r0 r1 r2 r3 hmax hm
        obtain ⟨g, rfl, c0, c1, T3⟩ := hcut
        have T4 := hid T3
        clear T3 T2 HL
        obtain ⟨r0, r1, r2, r3⟩ := T4.out.r.facts
        go_wp2_with fail
        refine (implRangeOk_any (mxl la lb) ⟨#[]⟩ _).mono ?_
        rintro e v5 ⟨rfl, hb5⟩
        have T5 := hid (T4.out.step hb5)
        have d0 := cell_kept c0 hb5
        have d1 := cell_kept c1 hb5
        clear T4 hb5 c0 c1 r0 r1 r2 r3
        obtain ⟨r0, r1, r2, r3⟩ := T5.out.r.facts
        cases h5 : rOk (mxl la lb) ⟨#[]⟩
        · rw [HX.out, h5] at HE
          go_wp2
          try simp only [Exit.inBlock, Exit.then]
          refine bodyPost_ret (v := .tuple #[rng ⟨#[]⟩ ⟨#[]⟩, .bool false]) ?_ rfl ?_
          · exact results_rng_bool rfl _ _ _ rfl rfl (by go_simp) (by go_simp)
          · exact ⟨by rw [HF.out (by rw [HE.out]; rfl)], (T5.out.bel.setCell (by simp; omega) _).setCell (by simp; omega) _⟩
        · rw [HX.out, h5] at HE
          go_wp2
          try simp only [Exit.inBlock, Exit.then]
          refine bodyPost_ret (v := .tuple #[rng (mxl la lb) ⟨#[]⟩, .bool true]) ?_ rfl ?_
          · exact results_rng_bool rfl _ _ _ rfl rfl (by go_simp) (by go_simp)
          · exact ⟨by rw [HT.out (by rw [HE.out]; rfl), HX.out], (T5.out.bel.setCell (by simp; omega) _).setCell (by simp; omega) _⟩
end Go.Proofs.Ytcpdedpgjaimkaa
/-
  The range that two ranges have in common: the program's own function, where the common range has an end.
-/
namespace Go.Proofs.Ytcpdedpgjaimkaa
open Go.RowKit

set_option maxHeartbeats 40000000 in
theorem implRangeBoth_key (la ha lb hb : ByteArray) (w : World) (hls : ¬ (lsr ha hb).toList = []) : Calls Try.prog 188 #[rng la ha, rng lb hb] w fun e w' => e = .returned (.tuple #[rng (bLo la ha lb hb) (bHi la ha lb hb), .bool (bth la ha lb hb)]) ∧ Below w.heap.size w w' := by
  show Calls Try.prog 188 #[.agg #[.string la, .string ha], .agg #[.string lb, .string hb]] w _
  have HE : Hid (bth la ha lb hb = (rOk la ha && rOk lb hb && rOk (mxl la lb) (lsr ha hb))) := rfl
  have HF : Hid (bth la ha lb hb = false → Value.tuple #[rng (bLo la ha lb hb) (bHi la ha lb hb), .bool (bth la ha lb hb)] = .tuple #[rng ⟨#[]⟩ ⟨#[]⟩, .bool false]) := fun h => by simp [bLo, bHi, h]
  have HT : Hid (bth la ha lb hb = true → Value.tuple #[rng (bLo la ha lb hb) (bHi la ha lb hb), .bool (bth la ha lb hb)] = .tuple #[rng (mxl la lb) (lsr ha hb), .bool true]) := fun h => by simp [bLo, bHi, h]
  have T0 := hid (Trio.new w la ha lb hb)
  go_enter Try.func188, Try.ntmps188
  go_wp2_with fail
  refine (implRangeOk_any la ha _).mono ?_
  generalize ((w.alloc (.cells #[.string la, .string ha] 27)).alloc (.cells #[.string lb, .string hb] 27)).alloc (.cells #[.string ⟨#[]⟩, .string ⟨#[]⟩] 27) = v0 at T0 ⊢
  rintro e v1 ⟨rfl, hb1⟩
  have T1 := hid (T0.out.step hb1)
  clear T0 hb1 v0
  obtain ⟨a0, a1, _, _⟩ := T1.out.a.facts
  obtain ⟨b0, b1, _, _⟩ := T1.out.b.facts
  obtain ⟨r0, r1, r2, r3⟩ := T1.out.r.facts
  cases h1 : rOk la ha
  · rw [h1] at HE
    go_wp2
    try simp only [Exit.inBlock, Exit.then]
    refine bodyPost_ret (v := .tuple #[rng ⟨#[]⟩ ⟨#[]⟩, .bool false]) ?_ rfl ?_
    · exact results_rng_bool rfl _ _ _ rfl rfl (by go_simp) (by go_simp)
    · exact ⟨by rw [HF.out (by rw [HE.out]; rfl)], (T1.out.bel.setCell (by simp; omega) _).setCell (by simp; omega) _⟩
  · rw [h1] at HE
    go_wp2_with fail
    refine (implRangeOk_any lb hb _).mono ?_
    rintro e v2 ⟨rfl, hb2⟩
    have T2 := hid (T1.out.step hb2)
    clear T1 hb2 a0 a1 b0 b1 r0 r1 r2 r3
    obtain ⟨a0, a1, _, _⟩ := T2.out.a.facts
    obtain ⟨b0, b1, _, _⟩ := T2.out.b.facts
    obtain ⟨r0, r1, r2, r3⟩ := T2.out.r.facts
    cases h2 : rOk lb hb
    · rw [h2] at HE
      go_wp2
      try simp only [Exit.inBlock, Exit.then]
      refine bodyPost_ret (v := .tuple #[rng ⟨#[]⟩ ⟨#[]⟩, .bool false]) ?_ rfl ?_
      · exact results_rng_bool rfl _ _ _ rfl rfl (by go_simp) (by go_simp)
      · exact ⟨by rw [HF.out (by rw [HE.out]; rfl)], (T2.out.bel.setCell (by simp; omega) _).setCell (by simp; omega) _⟩
    · rw [h2] at HE
      have hmax := run_mxl #[9, 9] 9 la lb
      have hm := method_key (lsr ha hb)
      have HL := hid (fun w => lesserEnd_any ha hb w)
      rw [show endV (lsr ha hb) = .iface 173 (.string (lsr ha hb)) from if_neg hls] at HL
      have hz0 := T2.out.r.lt
      have hz1 : w.heap.size + 1 + 1 < v2.drew.heap.size := hz0
      go_wp2_with fail
      go_cut [6] (fun p v => ∃ g, p = .pointer (some ⟨g, 0, none⟩) ∧ v.cell? ⟨g, 0, none⟩ = some (.string (mxl la lb)) ∧ v.cell? ⟨g, 1, none⟩ = some (.string (lsr ha hb)) ∧ Trio w v la ha lb hb)
      case first =>
        go_region_held3 (fun v => v.cell? ⟨w.heap.size, 0, none⟩ = some (.string la) ∧ v.cell? ⟨w.heap.size, 1, none⟩ = some (.string ha) ∧ v.cell? ⟨w.heap.size + 1, 0, none⟩ = some (.string lb) ∧ v.cell? ⟨w.heap.size + 1, 1, none⟩ = some (.string hb) ∧ Trio w v la ha lb hb)
          (first | assumption | exact (T2.out.step (below_drew _)).cells | exact Trio.call hbC (by assumption) | exact Trio.call (below_alloc _ _) (by assumption) | exact Trio.swap (by assumption) (by assumption) | exact Trio.sets (by assumption) (by assumption))
          (first
            | (go_at_call_of 48 (Value.agg #[Value.string la, Value.string ha]); refine (endOf_any la ha _).mono ?_; rintro e w' ⟨rfl, hbC⟩; have hz := Trio.big (w := w) hbC (by assumption); first | (with_reducible refine s2q_then hbC ?_; intro q0 q1 q2 q3) | (with_reducible refine s2d_then hbC ?_; intro q0 q1 q2 q3) | (with_reducible refine keep4_then hbC q0 q1 q2 q3 ?_; intro q0 q1 q2 q3) | skip)
            | (go_at_call_of 48 (Value.agg #[Value.string lb, Value.string hb]); refine (endOf_any lb hb _).mono ?_; rintro e w' ⟨rfl, hbC⟩; have hz := Trio.big (w := w) hbC (by assumption); first | (with_reducible refine s2q_then hbC ?_; intro q0 q1 q2 q3) | (with_reducible refine s2d_then hbC ?_; intro q0 q1 q2 q3) | (with_reducible refine keep4_then hbC q0 q1 q2 q3 ?_; intro q0 q1 q2 q3) | skip)
            | (go_at_call 169; refine (HL.out _).mono ?_; rintro e w' ⟨rfl, hbC⟩; have hz := Trio.big (w := w) hbC (by assumption); first | (with_reducible refine s2q_then hbC ?_; intro q0 q1 q2 q3) | (with_reducible refine s2d_then hbC ?_; intro q0 q1 q2 q3) | (with_reducible refine keep4_then hbC q0 q1 q2 q3 ?_; intro q0 q1 q2 q3) | skip)
            | (go_at_call 206; refine (hiKey_any (lsr ha hb) _).mono ?_; rintro e w' ⟨rfl, hbC⟩; have hz := Trio.big (w := w) hbC (by assumption); first | (with_reducible refine s2q_then hbC ?_; intro q0 q1 q2 q3) | (with_reducible refine s2d_then hbC ?_; intro q0 q1 q2 q3) | (with_reducible refine keep4_then hbC q0 q1 q2 q3 ?_; intro q0 q1 q2 q3) | skip))
        all_goals (go_wp2_with fail; go_meet; refine ⟨_, rfl, ?_, ?_, Trio.of (by assumption)⟩ <;> go_simp)
      case rest =>
        clear a0 a1 b0 b1 r0 r1 r2 r3 hmax hm
        obtain ⟨g, rfl, c0, c1, T3⟩ := hcut
        have T4 := hid T3
        clear T3 T2 HL
        obtain ⟨r0, r1, r2, r3⟩ := T4.out.r.facts
        go_wp2_with fail
        refine (implRangeOk_any (mxl la lb) (lsr ha hb) _).mono ?_
        rintro e v5 ⟨rfl, hb5⟩
        have T5 := hid (T4.out.step hb5)
        have d0 := cell_kept c0 hb5
        have d1 := cell_kept c1 hb5
        clear T4 hb5 c0 c1 r0 r1 r2 r3
        obtain ⟨r0, r1, r2, r3⟩ := T5.out.r.facts
        cases h5 : rOk (mxl la lb) (lsr ha hb)
        · rw [h5] at HE
          go_wp2
          try simp only [Exit.inBlock, Exit.then]
          refine bodyPost_ret (v := .tuple #[rng ⟨#[]⟩ ⟨#[]⟩, .bool false]) ?_ rfl ?_
          · exact results_rng_bool rfl _ _ _ rfl rfl (by go_simp) (by go_simp)
          · exact ⟨by rw [HF.out (by rw [HE.out]; rfl)], (T5.out.bel.setCell (by simp; omega) _).setCell (by simp; omega) _⟩
        · rw [h5] at HE
          go_wp2
          try simp only [Exit.inBlock, Exit.then]
          refine bodyPost_ret (v := .tuple #[rng (mxl la lb) (lsr ha hb), .bool true]) ?_ rfl ?_
          · exact results_rng_bool rfl _ _ _ rfl rfl (by go_simp) (by go_simp)
          · exact ⟨by rw [HT.out (by rw [HE.out]; rfl)], (T5.out.bel.setCell (by simp; omega) _).setCell (by simp; omega) _⟩
end Go.Proofs.Ytcpdedpgjaimkaa
/-
  The range that two ranges have in common, with and without an end.
-/
namespace Go.Proofs.Ytcpdedpgjaimkaa
open Go.RowKit
theorem implRangeBoth_any (la ha lb hb : ByteArray) (w : World) : Calls Try.prog 188 #[rng la ha, rng lb hb] w fun e w' => e = .returned (.tuple #[rng (bLo la ha lb hb) (bHi la ha lb hb), .bool (bth la ha lb hb)]) ∧ Below w.heap.size w w' := by
  by_cases h : (lsr ha hb).toList = []
  · exact implRangeBoth_no la ha lb hb w h
  · exact implRangeBoth_key la ha lb hb w h
theorem implRangeBoth_x (la ha lb hb : ByteArray) (w : World) : Calls Try.prog 188 #[rng la ha, rng lb hb] w fun e w' => e = .returned (.tuple #[.agg #[.string (bLo la ha lb hb), .string (bHi la ha lb hb)], .bool (bth la ha lb hb)]) ∧ Below w.heap.size w w' := implRangeBoth_any la ha lb hb w
theorem specRangeBoth_x (la ha lb hb : ByteArray) (w : World) : Calls Try.prog 166 #[rng la ha, rng lb hb] w fun e w' => e = .returned (.tuple #[.agg #[.string (bLo la ha lb hb), .string (bHi la ha lb hb)], .bool (bth la ha lb hb)]) ∧ Below w.heap.size w w' := specRangeBoth_any la ha lb hb w
end Go.Proofs.Ytcpdedpgjaimkaa
/-
  Locks on both sides: when one is right, when two clash, whether one of a row clashes, whether a transaction has one in a row.
-/
namespace Go.Proofs.Ytcpdedpgjaimkaa
open Go.RowKit
set_option linter.unusedVariables false
theorem results_claim {fn : Func} {p : Tmp} (h : fn.results = #[.cell p 149]) (tmps : Array Value) (w : World) (g : Nat) {c e n : Int} {lo hi : ByteArray} {ex : Bool} (hp : tmps.getD p undef = .pointer (some ⟨g, 0, none⟩))
    (c0 : w.cell? ⟨g, 0, none⟩ = some (.string lo)) (c1 : w.cell? ⟨g, 1, none⟩ = some (.string hi)) (c2 : w.cell? ⟨g, 2, none⟩ = some (.int .i64 c)) (c3 : w.cell? ⟨g, 3, none⟩ = some (.int .i64 e)) (c4 : w.cell? ⟨g, 4, none⟩ = some (.int .i64 n)) (c5 : w.cell? ⟨g, 5, none⟩ = some (.bool ex)) : (results fn tmps).run Try.prog w = .ok (.agg #[.string lo, .string hi, .int .i64 c, .int .i64 e, .int .i64 n, .bool ex]) w := by
  have hp' : tmps[p]?.getD undef = .pointer (some ⟨g, 0, none⟩) := by simpa using hp
  have hl : (loadVar 149 ⟨g, 0, none⟩).run Try.prog w = .ok (.agg #[.string lo, .string hi, .int .i64 c, .int .i64 e, .int .i64 n, .bool ex]) w := by go_simp
  simp [results, h, hp', asAddr, hl]
theorem clash_def (c e n : Int) (lo hi : ByteArray) (ex : Bool) (c' e' n' : Int) (lo' hi' : ByteArray) (ex' : Bool) : clash ((c, e, n), (lo, hi), ex) ((c', e', n'), (lo', hi'), ex') = (!decide ((c, e, n) = (c', e', n')) && ((ex || ex') && bth lo hi lo' hi')) := rfl
theorem lkOk_def (c e n : Int) (lo hi : ByteArray) (ex : Bool) : lkOk ((c, e, n), (lo, hi), ex) = (txOk (c, e, n) && rOk lo hi) := rfl
set_option maxHeartbeats 1600000 in
theorem implLockOk_any (c e n : Int) (lo hi : ByteArray) (ex : Bool) (w : World) : Calls Try.prog 79 #[.agg #[.int .i64 c, .int .i64 e, .int .i64 n, .string lo, .string hi, .bool ex]] w fun r w' => r = .returned (.bool (lkOk ((c, e, n), (lo, hi), ex))) ∧ Below w.heap.size w w' := by
  have HV := hid (lkOk_def c e n lo hi ex)
  have C1 := hid (fun w => implTxOk_any c e n w)
  have C2 : Hid (∀ w, Calls Try.prog 45 #[.agg #[.string lo, .string hi]] w fun r w' => r = .returned (.bool (rOk lo hi)) ∧ Below w.heap.size w w') := fun w => implRangeOk_any lo hi w
  generalize txOk (c, e, n) = z1 at *
  generalize rOk lo hi = z2 at *
  have B0 := hid (below_new (o := .cells #[.int .i64 c, .int .i64 e, .int .i64 n, .string lo, .string hi, .bool ex] 75) (w := w) (Below.refl _ _))
  have K0 := hid (Bk.new w 75 [.int .i64 c, .int .i64 e, .int .i64 n, .string lo, .string hi, .bool ex])
  cases z1 with
  | false =>
    go_enter Try.func79, Try.ntmps79
    go_wp2_with fail
    refine (C1.out _).mono ?_
    generalize w.alloc (.cells #[.int .i64 c, .int .i64 e, .int .i64 n, .string lo, .string hi, .bool ex] 75) = U at *
    rintro r w1 ⟨rfl, hb⟩
    have K1 := hid (K0.out.below hb)
    have B1 := hid (B0.out.trans (hb.mono B0.out.size))
    clear K0 B0 hb
    have x0 := K1.out.cell (j := 0) rfl
    have x1 := K1.out.cell (j := 1) rfl
    have x2 := K1.out.cell (j := 2) rfl
    have x3 := K1.out.cell (j := 3) rfl
    have x4 := K1.out.cell (j := 4) rfl
    have x5 := K1.out.cell (j := 5) rfl
    go_wp2
    go_ret
    exact ⟨by rw [HV.out]; rfl, B1.out⟩
  | true =>
    go_enter Try.func79, Try.ntmps79
    go_wp2_with fail
    refine (C1.out _).mono ?_
    generalize w.alloc (.cells #[.int .i64 c, .int .i64 e, .int .i64 n, .string lo, .string hi, .bool ex] 75) = U at *
    rintro r w1 ⟨rfl, hb⟩
    have K1 := hid (K0.out.below hb)
    have B1 := hid (B0.out.trans (hb.mono B0.out.size))
    clear K0 B0 hb
    have x0 := K1.out.cell (j := 0) rfl
    have x1 := K1.out.cell (j := 1) rfl
    have x2 := K1.out.cell (j := 2) rfl
    have x3 := K1.out.cell (j := 3) rfl
    have x4 := K1.out.cell (j := 4) rfl
    have x5 := K1.out.cell (j := 5) rfl
    go_wp2_with fail
    refine (C2.out _).mono ?_
    rintro r w2 ⟨rfl, hb⟩
    have K2 := hid (K1.out.below hb)
    have B2 := hid (B1.out.trans (hb.mono B1.out.size))
    clear K1 B1 hb x0 x1 x2 x3 x4 x5
    go_wp2
    go_ret
    exact ⟨by rw [HV.out]; rfl, B2.out⟩
set_option maxHeartbeats 1600000 in
theorem specLockOk_any (c e n : Int) (lo hi : ByteArray) (ex : Bool) (w : World) : Calls Try.prog 85 #[.agg #[.int .i64 c, .int .i64 e, .int .i64 n, .string lo, .string hi, .bool ex]] w fun r w' => r = .returned (.bool (lkOk ((c, e, n), (lo, hi), ex))) ∧ Below w.heap.size w w' := by
  have HV := hid (lkOk_def c e n lo hi ex)
  have C1 := hid (fun w => specTxOk_any c e n w)
  have C2 : Hid (∀ w, Calls Try.prog 111 #[.agg #[.string lo, .string hi]] w fun r w' => r = .returned (.bool (rOk lo hi)) ∧ Below w.heap.size w w') := fun w => specRangeOk_any lo hi w
  generalize txOk (c, e, n) = z1 at *
  generalize rOk lo hi = z2 at *
  have B0 := hid (below_new (o := .cells #[.int .i64 c, .int .i64 e, .int .i64 n, .string lo, .string hi, .bool ex] 75) (w := w) (Below.refl _ _))
  have K0 := hid (Bk.new w 75 [.int .i64 c, .int .i64 e, .int .i64 n, .string lo, .string hi, .bool ex])
  cases z1 with
  | false =>
    go_enter Try.func85, Try.ntmps85
    go_wp2_with fail
    refine (C1.out _).mono ?_
    generalize w.alloc (.cells #[.int .i64 c, .int .i64 e, .int .i64 n, .string lo, .string hi, .bool ex] 75) = U at *
    rintro r w1 ⟨rfl, hb⟩
    have K1 := hid (K0.out.below hb)
    have B1 := hid (B0.out.trans (hb.mono B0.out.size))
    clear K0 B0 hb
    have x0 := K1.out.cell (j := 0) rfl
    have x1 := K1.out.cell (j := 1) rfl
    have x2 := K1.out.cell (j := 2) rfl
    have x3 := K1.out.cell (j := 3) rfl
    have x4 := K1.out.cell (j := 4) rfl
    have x5 := K1.out.cell (j := 5) rfl
    go_wp2
    go_ret
    exact ⟨by rw [HV.out]; rfl, B1.out⟩
  | true =>
    go_enter Try.func85, Try.ntmps85
    go_wp2_with fail
    refine (C1.out _).mono ?_
    generalize w.alloc (.cells #[.int .i64 c, .int .i64 e, .int .i64 n, .string lo, .string hi, .bool ex] 75) = U at *
    rintro r w1 ⟨rfl, hb⟩
    have K1 := hid (K0.out.below hb)
    have B1 := hid (B0.out.trans (hb.mono B0.out.size))
    clear K0 B0 hb
    have x0 := K1.out.cell (j := 0) rfl
    have x1 := K1.out.cell (j := 1) rfl
    have x2 := K1.out.cell (j := 2) rfl
    have x3 := K1.out.cell (j := 3) rfl
    have x4 := K1.out.cell (j := 4) rfl
    have x5 := K1.out.cell (j := 5) rfl
    go_wp2_with fail
    refine (C2.out _).mono ?_
    rintro r w2 ⟨rfl, hb⟩
    have K2 := hid (K1.out.below hb)
    have B2 := hid (B1.out.trans (hb.mono B1.out.size))
    clear K1 B1 hb x0 x1 x2 x3 x4 x5
    go_wp2
    go_ret
    exact ⟨by rw [HV.out]; rfl, B2.out⟩
set_option maxHeartbeats 1600000 in
theorem claimOf_any (c e n : Int) (lo hi : ByteArray) (ex : Bool) (w : World) : Calls Try.prog 94 #[.agg #[.int .i64 c, .int .i64 e, .int .i64 n, .string lo, .string hi, .bool ex]] w fun r w' => r = .returned (.agg #[.string lo, .string hi, .int .i64 c, .int .i64 e, .int .i64 n, .bool ex]) ∧ Below w.heap.size w w' := by
  go_enter Try.func94, Try.ntmps94
  go_wp2
  try simp only [Exit.inBlock, Exit.then]
  refine bodyPost_ret (v := .agg #[.string lo, .string hi, .int .i64 c, .int .i64 e, .int .i64 n, .bool ex]) ?_ rfl ?_
  · exact results_claim rfl _ _ _ rfl (by go_simp) (by go_simp) (by go_simp) (by go_simp) (by go_simp) (by go_simp)
  · exact ⟨rfl, below_new (below_new (Below.refl _ _))⟩
set_option maxHeartbeats 1600000 in
theorem meets_any (lo hi lo' hi' : ByteArray) (w : World) : Calls Try.prog 180 #[.agg #[.string lo, .string hi], .agg #[.string lo', .string hi']] w fun r w' => r = .returned (.bool (bth lo hi lo' hi')) ∧ Below w.heap.size w w' := by
  have C1 : Hid (∀ w, Calls Try.prog 188 #[.agg #[.string lo, .string hi], .agg #[.string lo', .string hi']] w fun e w' => e = .returned (.tuple #[.agg #[.string (bLo lo hi lo' hi'), .string (bHi lo hi lo' hi')], .bool (bth lo hi lo' hi')]) ∧ Below w.heap.size w w') := fun w => implRangeBoth_x lo hi lo' hi' w
  generalize bLo lo hi lo' hi' = z1 at *
  generalize bHi lo hi lo' hi' = z2 at *
  generalize bth lo hi lo' hi' = z3 at *
  go_enter Try.func180, Try.ntmps180
  go_wp2_with fail
  refine (C1.out _).mono ?_
  rintro r w1 ⟨rfl, hb⟩
  have B1 := hid (below_new (below_new hb))
  clear hb
  go_wp2
  go_ret
  exact ⟨rfl, B1.out.alloc B1.out.size _⟩
set_option maxHeartbeats 3200000 in
theorem clashes_any (c e n : Int) (lo hi : ByteArray) (ex : Bool) (c' e' n' : Int) (lo' hi' : ByteArray) (ex' : Bool) (w : World) : Calls Try.prog 168 #[.agg #[.string lo, .string hi, .int .i64 c, .int .i64 e, .int .i64 n, .bool ex], .agg #[.string lo', .string hi', .int .i64 c', .int .i64 e', .int .i64 n', .bool ex']] w fun r w' => r = .returned (.bool (clash ((c, e, n), (lo, hi), ex) ((c', e', n'), (lo', hi'), ex'))) ∧ Below w.heap.size w w' := by
  have HV := hid (clash_def c e n lo hi ex c' e' n' lo' hi' ex')
  have C1 := hid (fun w => meets_any lo hi lo' hi' w)
  have hq := neq_tx c e n c' e' n'
  have hg := guard_tx .neq
  generalize bth lo hi lo' hi' = z3 at *
  generalize decide ((c, e, n) = (c', e', n')) = z1 at *
  have B0 := hid (below_new (o := .cells #[.string lo, .string hi, .int .i64 c, .int .i64 e, .int .i64 n, .bool ex] 149) (w := w) (below_new (o := .cells #[.string lo', .string hi', .int .i64 c', .int .i64 e', .int .i64 n', .bool ex'] 149) (w := w.alloc (.cells #[.string lo, .string hi, .int .i64 c, .int .i64 e, .int .i64 n, .bool ex] 149)) (Below.refl _ _)))
  cases z1 with
  | true =>
    go_enter Try.func168, Try.ntmps168
    go_wp2
    go_ret
    exact ⟨by rw [HV.out]; rfl, B0.out⟩
  | false =>
    cases ex with
    | true =>
      go_enter Try.func168, Try.ntmps168
      go_wp2_with fail
      refine (C1.out _).mono ?_
      rintro r w1 ⟨rfl, hb⟩
      have B1 := hid (B0.out.trans (hb.mono B0.out.size))
      clear hb
      go_wp2
      go_ret
      exact ⟨by rw [HV.out]; rfl, B1.out⟩
    | false =>
      cases ex' with
      | true =>
        go_enter Try.func168, Try.ntmps168
        go_wp2_with fail
        refine (C1.out _).mono ?_
        rintro r w1 ⟨rfl, hb⟩
        have B1 := hid (B0.out.trans (hb.mono B0.out.size))
        clear hb
        go_wp2
        go_ret
        exact ⟨by rw [HV.out]; rfl, B1.out⟩
      | false =>
        go_enter Try.func168, Try.ntmps168
        go_wp2
        go_ret
        exact ⟨by rw [HV.out]; rfl, B0.out⟩
set_option maxHeartbeats 3200000 in
theorem l07Clash_any (c e n : Int) (lo hi : ByteArray) (ex : Bool) (c' e' n' : Int) (lo' hi' : ByteArray) (ex' : Bool) (w : World) : Calls Try.prog 141 #[.agg #[.int .i64 c, .int .i64 e, .int .i64 n, .string lo, .string hi, .bool ex], .agg #[.int .i64 c', .int .i64 e', .int .i64 n', .string lo', .string hi', .bool ex']] w fun r w' => r = .returned (.bool (clash ((c, e, n), (lo, hi), ex) ((c', e', n'), (lo', hi'), ex'))) ∧ Below w.heap.size w w' := by
  have HV := hid (clash_def c e n lo hi ex c' e' n' lo' hi' ex')
  have C1 : Hid (∀ w, Calls Try.prog 166 #[.agg #[.string lo, .string hi], .agg #[.string lo', .string hi']] w fun e w' => e = .returned (.tuple #[.agg #[.string (bLo lo hi lo' hi'), .string (bHi lo hi lo' hi')], .bool (bth lo hi lo' hi')]) ∧ Below w.heap.size w w') := fun w => specRangeBoth_x lo hi lo' hi' w
  have hq := neq_tx c e n c' e' n'
  have hg := guard_tx .neq
  generalize bLo lo hi lo' hi' = z4 at *
  generalize bHi lo hi lo' hi' = z5 at *
  generalize bth lo hi lo' hi' = z3 at *
  generalize decide ((c, e, n) = (c', e', n')) = z1 at *
  have B0 := hid (below_new (o := .cells #[.int .i64 c, .int .i64 e, .int .i64 n, .string lo, .string hi, .bool ex] 75) (w := w) (below_new (o := .cells #[.int .i64 c', .int .i64 e', .int .i64 n', .string lo', .string hi', .bool ex'] 75) (w := w.alloc (.cells #[.int .i64 c, .int .i64 e, .int .i64 n, .string lo, .string hi, .bool ex] 75)) (Below.refl _ _)))
  have K0 := hid ((Bk.new w 75 [.int .i64 c, .int .i64 e, .int .i64 n, .string lo, .string hi, .bool ex]).alloc (.cells #[.int .i64 c', .int .i64 e', .int .i64 n', .string lo', .string hi', .bool ex'] 75))
  have J0 := hid (Bk.new (w.alloc (.cells #[.int .i64 c, .int .i64 e, .int .i64 n, .string lo, .string hi, .bool ex] 75)) 75 [.int .i64 c', .int .i64 e', .int .i64 n', .string lo', .string hi', .bool ex'])
  rw [show (w.alloc (.cells #[.int .i64 c, .int .i64 e, .int .i64 n, .string lo, .string hi, .bool ex] 75)).heap.size = w.heap.size + 1 by simp] at J0
  go_enter Try.func141, Try.ntmps141
  go_wp2_with fail
  refine (C1.out _).mono ?_
  generalize (w.alloc (.cells #[.int .i64 c, .int .i64 e, .int .i64 n, .string lo, .string hi, .bool ex] 75)).alloc (.cells #[.int .i64 c', .int .i64 e', .int .i64 n', .string lo', .string hi', .bool ex'] 75) = U at *
  rintro r w1 ⟨rfl, hb⟩
  have K1 := hid (K0.out.below hb)
  have J1 := hid (J0.out.below hb)
  have B1 := hid (B0.out.trans (hb.mono B0.out.size))
  clear K0 J0 B0 hb
  have x0 := K1.out.cell (j := 0) rfl
  have x1 := K1.out.cell (j := 1) rfl
  have x2 := K1.out.cell (j := 2) rfl
  have x5 := K1.out.cell (j := 5) rfl
  have y0 := J1.out.cell (j := 0) rfl
  have y1 := J1.out.cell (j := 1) rfl
  have y2 := J1.out.cell (j := 2) rfl
  have y5 := J1.out.cell (j := 5) rfl
  have B2 : Hid (Below w.heap.size w (w1.alloc (.cells #[.string z4, .string z5] 27))) := B1.out.trans (below_new (Below.refl _ _) |>.mono B1.out.size)
  have k0 := K1.out.lt
  have j0 := J1.out.lt
  cases z1 with
  | true =>
    go_wp2
    go_ret
    exact ⟨by rw [HV.out]; rfl, B2.out⟩
  | false =>
    cases z3 with
    | false =>
      go_wp2
      go_ret
      exact ⟨by rw [HV.out]; cases ex <;> cases ex' <;> rfl, B2.out⟩
    | true =>
      cases ex with
      | true =>
        go_wp2
        go_ret
        exact ⟨by rw [HV.out]; rfl, B2.out⟩
      | false =>
        go_wp2
        go_ret
        exact ⟨by rw [HV.out]; cases ex' <;> rfl, B2.out⟩
end Go.Proofs.Ytcpdedpgjaimkaa
/-
  Cells that are kept while a stretch of the program reads and calls in an order that is not known: eight and twelve of them.
-/
namespace Go.Proofs.Ytcpdedpgjaimkaa
open Go.RowKit
structure KL (u v : World) (cs : List (Addr × Value)) : Prop where
  cells : ∀ p ∈ cs, u.cell? p.1 = some p.2
  bel : Below u.heap.size u v
theorem KL.at {u v : World} {cs : List (Addr × Value)} (h : KL u v cs) {a : Addr} {x : Value} (hp : (a, x) ∈ cs) : v.cell? a = some x := by
  have hc := h.cells (a, x) hp
  rw [h.bel.cell (p := a) (block_lt hc)]
  exact hc
theorem KL.call {u v v' : World} {cs : List (Addr × Value)} (h : KL u v cs) (k : Below v.heap.size v v') : KL u v' cs := ⟨h.cells, h.bel.trans (k.mono h.bel.size)⟩
theorem kl2 {u v : World} {a0 a1 : Addr} {x0 x1 : Value} (h : KL u v [(a0, x0), (a1, x1)]) : v.cell? a0 = some x0 ∧ v.cell? a1 = some x1 ∧ KL u v [(a0, x0), (a1, x1)] := ⟨h.at (by simp), h.at (by simp), h⟩
theorem kl2c {u v v' : World} {a0 a1 : Addr} {x0 x1 : Value} (k : Below v.heap.size v v') (h : v.cell? a0 = some x0 ∧ v.cell? a1 = some x1 ∧ KL u v [(a0, x0), (a1, x1)]) : v'.cell? a0 = some x0 ∧ v'.cell? a1 = some x1 ∧ KL u v' [(a0, x0), (a1, x1)] := kl2 (KL.call h.2.2 k)
theorem kl2_bel {u v : World} {a0 a1 : Addr} {x0 x1 : Value} (h : v.cell? a0 = some x0 ∧ v.cell? a1 = some x1 ∧ KL u v [(a0, x0), (a1, x1)]) : Below u.heap.size u v := KL.bel h.2.2
theorem kl2_0 {u : World} {a0 a1 : Addr} {x0 x1 : Value} (h0 : u.cell? a0 = some x0) (h1 : u.cell? a1 = some x1) : KL u u [(a0, x0), (a1, x1)] := ⟨fun p hp => by
    simp only [List.mem_cons, List.not_mem_nil, or_false] at hp
    rcases hp with rfl | rfl <;> assumption, Below.refl _ _⟩
theorem kl4 {u v : World} {a0 a1 a2 a3 : Addr} {x0 x1 x2 x3 : Value} (h : KL u v [(a0, x0), (a1, x1), (a2, x2), (a3, x3)]) : v.cell? a0 = some x0 ∧ v.cell? a1 = some x1 ∧ v.cell? a2 = some x2 ∧ v.cell? a3 = some x3 ∧ KL u v [(a0, x0), (a1, x1), (a2, x2), (a3, x3)] := ⟨h.at (by simp), h.at (by simp), h.at (by simp), h.at (by simp), h⟩
theorem kl4c {u v v' : World} {a0 a1 a2 a3 : Addr} {x0 x1 x2 x3 : Value} (k : Below v.heap.size v v') (h : v.cell? a0 = some x0 ∧ v.cell? a1 = some x1 ∧ v.cell? a2 = some x2 ∧ v.cell? a3 = some x3 ∧ KL u v [(a0, x0), (a1, x1), (a2, x2), (a3, x3)]) : v'.cell? a0 = some x0 ∧ v'.cell? a1 = some x1 ∧ v'.cell? a2 = some x2 ∧ v'.cell? a3 = some x3 ∧ KL u v' [(a0, x0), (a1, x1), (a2, x2), (a3, x3)] := kl4 (KL.call h.2.2.2.2 k)
theorem kl4_bel {u v : World} {a0 a1 a2 a3 : Addr} {x0 x1 x2 x3 : Value} (h : v.cell? a0 = some x0 ∧ v.cell? a1 = some x1 ∧ v.cell? a2 = some x2 ∧ v.cell? a3 = some x3 ∧ KL u v [(a0, x0), (a1, x1), (a2, x2), (a3, x3)]) : Below u.heap.size u v := KL.bel h.2.2.2.2
theorem kl4_0 {u : World} {a0 a1 a2 a3 : Addr} {x0 x1 x2 x3 : Value} (h0 : u.cell? a0 = some x0) (h1 : u.cell? a1 = some x1) (h2 : u.cell? a2 = some x2) (h3 : u.cell? a3 = some x3) : KL u u [(a0, x0), (a1, x1), (a2, x2), (a3, x3)] := ⟨fun p hp => by
    simp only [List.mem_cons, List.not_mem_nil, or_false] at hp
    rcases hp with rfl | rfl | rfl | rfl <;> assumption, Below.refl _ _⟩
theorem kl7 {u v : World} {a0 a1 a2 a3 a4 a5 a6 : Addr} {x0 x1 x2 x3 x4 x5 x6 : Value} (h : KL u v [(a0, x0), (a1, x1), (a2, x2), (a3, x3), (a4, x4), (a5, x5), (a6, x6)]) : v.cell? a0 = some x0 ∧ v.cell? a1 = some x1 ∧ v.cell? a2 = some x2 ∧ v.cell? a3 = some x3 ∧ v.cell? a4 = some x4 ∧ v.cell? a5 = some x5 ∧ v.cell? a6 = some x6 ∧ KL u v [(a0, x0), (a1, x1), (a2, x2), (a3, x3), (a4, x4), (a5, x5), (a6, x6)] := ⟨h.at (by simp), h.at (by simp), h.at (by simp), h.at (by simp), h.at (by simp), h.at (by simp), h.at (by simp), h⟩
theorem kl7c {u v v' : World} {a0 a1 a2 a3 a4 a5 a6 : Addr} {x0 x1 x2 x3 x4 x5 x6 : Value} (k : Below v.heap.size v v') (h : v.cell? a0 = some x0 ∧ v.cell? a1 = some x1 ∧ v.cell? a2 = some x2 ∧ v.cell? a3 = some x3 ∧ v.cell? a4 = some x4 ∧ v.cell? a5 = some x5 ∧ v.cell? a6 = some x6 ∧ KL u v [(a0, x0), (a1, x1), (a2, x2), (a3, x3), (a4, x4), (a5, x5), (a6, x6)]) : v'.cell? a0 = some x0 ∧ v'.cell? a1 = some x1 ∧ v'.cell? a2 = some x2 ∧ v'.cell? a3 = some x3 ∧ v'.cell? a4 = some x4 ∧ v'.cell? a5 = some x5 ∧ v'.cell? a6 = some x6 ∧ KL u v' [(a0, x0), (a1, x1), (a2, x2), (a3, x3), (a4, x4), (a5, x5), (a6, x6)] := kl7 (KL.call h.2.2.2.2.2.2.2 k)
theorem kl7_bel {u v : World} {a0 a1 a2 a3 a4 a5 a6 : Addr} {x0 x1 x2 x3 x4 x5 x6 : Value} (h : v.cell? a0 = some x0 ∧ v.cell? a1 = some x1 ∧ v.cell? a2 = some x2 ∧ v.cell? a3 = some x3 ∧ v.cell? a4 = some x4 ∧ v.cell? a5 = some x5 ∧ v.cell? a6 = some x6 ∧ KL u v [(a0, x0), (a1, x1), (a2, x2), (a3, x3), (a4, x4), (a5, x5), (a6, x6)]) : Below u.heap.size u v := KL.bel h.2.2.2.2.2.2.2
theorem kl7_0 {u : World} {a0 a1 a2 a3 a4 a5 a6 : Addr} {x0 x1 x2 x3 x4 x5 x6 : Value} (h0 : u.cell? a0 = some x0) (h1 : u.cell? a1 = some x1) (h2 : u.cell? a2 = some x2) (h3 : u.cell? a3 = some x3) (h4 : u.cell? a4 = some x4) (h5 : u.cell? a5 = some x5) (h6 : u.cell? a6 = some x6) : KL u u [(a0, x0), (a1, x1), (a2, x2), (a3, x3), (a4, x4), (a5, x5), (a6, x6)] := ⟨fun p hp => by
    simp only [List.mem_cons, List.not_mem_nil, or_false] at hp
    rcases hp with rfl | rfl | rfl | rfl | rfl | rfl | rfl <;> assumption, Below.refl _ _⟩
theorem kl8 {u v : World} {a0 a1 a2 a3 a4 a5 a6 a7 : Addr} {x0 x1 x2 x3 x4 x5 x6 x7 : Value} (h : KL u v [(a0, x0), (a1, x1), (a2, x2), (a3, x3), (a4, x4), (a5, x5), (a6, x6), (a7, x7)]) : v.cell? a0 = some x0 ∧ v.cell? a1 = some x1 ∧ v.cell? a2 = some x2 ∧ v.cell? a3 = some x3 ∧ v.cell? a4 = some x4 ∧ v.cell? a5 = some x5 ∧ v.cell? a6 = some x6 ∧ v.cell? a7 = some x7 ∧ KL u v [(a0, x0), (a1, x1), (a2, x2), (a3, x3), (a4, x4), (a5, x5), (a6, x6), (a7, x7)] := ⟨h.at (by simp), h.at (by simp), h.at (by simp), h.at (by simp), h.at (by simp), h.at (by simp), h.at (by simp), h.at (by simp), h⟩
theorem kl8c {u v v' : World} {a0 a1 a2 a3 a4 a5 a6 a7 : Addr} {x0 x1 x2 x3 x4 x5 x6 x7 : Value} (k : Below v.heap.size v v') (h : v.cell? a0 = some x0 ∧ v.cell? a1 = some x1 ∧ v.cell? a2 = some x2 ∧ v.cell? a3 = some x3 ∧ v.cell? a4 = some x4 ∧ v.cell? a5 = some x5 ∧ v.cell? a6 = some x6 ∧ v.cell? a7 = some x7 ∧ KL u v [(a0, x0), (a1, x1), (a2, x2), (a3, x3), (a4, x4), (a5, x5), (a6, x6), (a7, x7)]) : v'.cell? a0 = some x0 ∧ v'.cell? a1 = some x1 ∧ v'.cell? a2 = some x2 ∧ v'.cell? a3 = some x3 ∧ v'.cell? a4 = some x4 ∧ v'.cell? a5 = some x5 ∧ v'.cell? a6 = some x6 ∧ v'.cell? a7 = some x7 ∧ KL u v' [(a0, x0), (a1, x1), (a2, x2), (a3, x3), (a4, x4), (a5, x5), (a6, x6), (a7, x7)] := kl8 (KL.call h.2.2.2.2.2.2.2.2 k)
theorem kl8_bel {u v : World} {a0 a1 a2 a3 a4 a5 a6 a7 : Addr} {x0 x1 x2 x3 x4 x5 x6 x7 : Value} (h : v.cell? a0 = some x0 ∧ v.cell? a1 = some x1 ∧ v.cell? a2 = some x2 ∧ v.cell? a3 = some x3 ∧ v.cell? a4 = some x4 ∧ v.cell? a5 = some x5 ∧ v.cell? a6 = some x6 ∧ v.cell? a7 = some x7 ∧ KL u v [(a0, x0), (a1, x1), (a2, x2), (a3, x3), (a4, x4), (a5, x5), (a6, x6), (a7, x7)]) : Below u.heap.size u v := KL.bel h.2.2.2.2.2.2.2.2
theorem kl8_0 {u : World} {a0 a1 a2 a3 a4 a5 a6 a7 : Addr} {x0 x1 x2 x3 x4 x5 x6 x7 : Value} (h0 : u.cell? a0 = some x0) (h1 : u.cell? a1 = some x1) (h2 : u.cell? a2 = some x2) (h3 : u.cell? a3 = some x3) (h4 : u.cell? a4 = some x4) (h5 : u.cell? a5 = some x5) (h6 : u.cell? a6 = some x6) (h7 : u.cell? a7 = some x7) : KL u u [(a0, x0), (a1, x1), (a2, x2), (a3, x3), (a4, x4), (a5, x5), (a6, x6), (a7, x7)] := ⟨fun p hp => by
    simp only [List.mem_cons, List.not_mem_nil, or_false] at hp
    rcases hp with rfl | rfl | rfl | rfl | rfl | rfl | rfl | rfl <;> assumption, Below.refl _ _⟩
theorem kl12 {u v : World} {a0 a1 a2 a3 a4 a5 a6 a7 a8 a9 a10 a11 : Addr} {x0 x1 x2 x3 x4 x5 x6 x7 x8 x9 x10 x11 : Value} (h : KL u v [(a0, x0), (a1, x1), (a2, x2), (a3, x3), (a4, x4), (a5, x5), (a6, x6), (a7, x7), (a8, x8), (a9, x9), (a10, x10), (a11, x11)]) : v.cell? a0 = some x0 ∧ v.cell? a1 = some x1 ∧ v.cell? a2 = some x2 ∧ v.cell? a3 = some x3 ∧ v.cell? a4 = some x4 ∧ v.cell? a5 = some x5 ∧ v.cell? a6 = some x6 ∧ v.cell? a7 = some x7 ∧ v.cell? a8 = some x8 ∧ v.cell? a9 = some x9 ∧ v.cell? a10 = some x10 ∧ v.cell? a11 = some x11 ∧ KL u v [(a0, x0), (a1, x1), (a2, x2), (a3, x3), (a4, x4), (a5, x5), (a6, x6), (a7, x7), (a8, x8), (a9, x9), (a10, x10), (a11, x11)] := ⟨h.at (by simp), h.at (by simp), h.at (by simp), h.at (by simp), h.at (by simp), h.at (by simp), h.at (by simp), h.at (by simp), h.at (by simp), h.at (by simp), h.at (by simp), h.at (by simp), h⟩
theorem kl12c {u v v' : World} {a0 a1 a2 a3 a4 a5 a6 a7 a8 a9 a10 a11 : Addr} {x0 x1 x2 x3 x4 x5 x6 x7 x8 x9 x10 x11 : Value} (k : Below v.heap.size v v') (h : v.cell? a0 = some x0 ∧ v.cell? a1 = some x1 ∧ v.cell? a2 = some x2 ∧ v.cell? a3 = some x3 ∧ v.cell? a4 = some x4 ∧ v.cell? a5 = some x5 ∧ v.cell? a6 = some x6 ∧ v.cell? a7 = some x7 ∧ v.cell? a8 = some x8 ∧ v.cell? a9 = some x9 ∧ v.cell? a10 = some x10 ∧ v.cell? a11 = some x11 ∧ KL u v [(a0, x0), (a1, x1), (a2, x2), (a3, x3), (a4, x4), (a5, x5), (a6, x6), (a7, x7), (a8, x8), (a9, x9), (a10, x10), (a11, x11)]) : v'.cell? a0 = some x0 ∧ v'.cell? a1 = some x1 ∧ v'.cell? a2 = some x2 ∧ v'.cell? a3 = some x3 ∧ v'.cell? a4 = some x4 ∧ v'.cell? a5 = some x5 ∧ v'.cell? a6 = some x6 ∧ v'.cell? a7 = some x7 ∧ v'.cell? a8 = some x8 ∧ v'.cell? a9 = some x9 ∧ v'.cell? a10 = some x10 ∧ v'.cell? a11 = some x11 ∧ KL u v' [(a0, x0), (a1, x1), (a2, x2), (a3, x3), (a4, x4), (a5, x5), (a6, x6), (a7, x7), (a8, x8), (a9, x9), (a10, x10), (a11, x11)] := kl12 (KL.call h.2.2.2.2.2.2.2.2.2.2.2.2 k)
theorem kl12_bel {u v : World} {a0 a1 a2 a3 a4 a5 a6 a7 a8 a9 a10 a11 : Addr} {x0 x1 x2 x3 x4 x5 x6 x7 x8 x9 x10 x11 : Value} (h : v.cell? a0 = some x0 ∧ v.cell? a1 = some x1 ∧ v.cell? a2 = some x2 ∧ v.cell? a3 = some x3 ∧ v.cell? a4 = some x4 ∧ v.cell? a5 = some x5 ∧ v.cell? a6 = some x6 ∧ v.cell? a7 = some x7 ∧ v.cell? a8 = some x8 ∧ v.cell? a9 = some x9 ∧ v.cell? a10 = some x10 ∧ v.cell? a11 = some x11 ∧ KL u v [(a0, x0), (a1, x1), (a2, x2), (a3, x3), (a4, x4), (a5, x5), (a6, x6), (a7, x7), (a8, x8), (a9, x9), (a10, x10), (a11, x11)]) : Below u.heap.size u v := KL.bel h.2.2.2.2.2.2.2.2.2.2.2.2
theorem kl12_0 {u : World} {a0 a1 a2 a3 a4 a5 a6 a7 a8 a9 a10 a11 : Addr} {x0 x1 x2 x3 x4 x5 x6 x7 x8 x9 x10 x11 : Value} (h0 : u.cell? a0 = some x0) (h1 : u.cell? a1 = some x1) (h2 : u.cell? a2 = some x2) (h3 : u.cell? a3 = some x3) (h4 : u.cell? a4 = some x4) (h5 : u.cell? a5 = some x5) (h6 : u.cell? a6 = some x6) (h7 : u.cell? a7 = some x7) (h8 : u.cell? a8 = some x8) (h9 : u.cell? a9 = some x9) (h10 : u.cell? a10 = some x10) (h11 : u.cell? a11 = some x11) : KL u u [(a0, x0), (a1, x1), (a2, x2), (a3, x3), (a4, x4), (a5, x5), (a6, x6), (a7, x7), (a8, x8), (a9, x9), (a10, x10), (a11, x11)] := ⟨fun p hp => by
    simp only [List.mem_cons, List.not_mem_nil, or_false] at hp
    rcases hp with rfl | rfl | rfl | rfl | rfl | rfl | rfl | rfl | rfl | rfl | rfl | rfl <;> assumption, Below.refl _ _⟩
end Go.Proofs.Ytcpdedpgjaimkaa
/-
  Rows of locks: looked through by the program's closures and by the specification's loops.
-/
namespace Go.Proofs.Ytcpdedpgjaimkaa
open Go.RowKit
set_option linter.unusedVariables false
theorem anyC_def (l : List LK) (x : LK) : anyC l x = l.any (clash x) := rfl
theorem hasT_def (l : List LK) (t : TX) : hasT l t = l.any (fun y => decide (y.1 = t)) := rfl
set_option maxHeartbeats 3200000 in
theorem cwaFn_any (c e n : Int) (lo hi : ByteArray) (ex : Bool) (a b d : Int) (la ha : ByteArray) (xa : Bool) (g : Nat) (w : World) (hk : Bk w g 149 [.string lo, .string hi, .int .i64 c, .int .i64 e, .int .i64 n, .bool ex]) :
    Calls Try.prog 167 #[.agg #[.int .i64 a, .int .i64 b, .int .i64 d, .string la, .string ha, .bool xa], .pointer (some ⟨g, 0, none⟩)] w fun r w' => r = .returned (.bool (clash ((c, e, n), (lo, hi), ex) ((a, b, d), (la, ha), xa))) ∧ Below w.heap.size w w' := by
  have C1 := hid (fun w => claimOf_any a b d la ha xa w)
  have C2 := hid (fun w => clashes_any c e n lo hi ex a b d la ha xa w)
  generalize clash ((c, e, n), (lo, hi), ex) ((a, b, d), (la, ha), xa) = z at *
  have B0 := hid (below_new (o := .cells #[.int .i64 a, .int .i64 b, .int .i64 d, .string la, .string ha, .bool xa] 75) (w := w) (Below.refl _ _))
  have J0 := hid (Bk.new w 75 [.int .i64 a, .int .i64 b, .int .i64 d, .string la, .string ha, .bool xa])
  have K0 := hid (hk.alloc (.cells #[.int .i64 a, .int .i64 b, .int .i64 d, .string la, .string ha, .bool xa] 75))
  have HGW : g < w.heap.size := hk.lt
  clear hk
  generalize hU : w.alloc (.cells #[.int .i64 a, .int .i64 b, .int .i64 d, .string la, .string ha, .bool xa] 75) = U at *
  have HU := hid hU
  clear hU
  have T0 : Hid (KL U U [(⟨g, 0, none⟩, .string lo), (⟨g, 1, none⟩, .string hi), (⟨g, 2, none⟩, .int .i64 c), (⟨g, 3, none⟩, .int .i64 e), (⟨g, 4, none⟩, .int .i64 n), (⟨g, 5, none⟩, .bool ex), (⟨w.heap.size, 0, none⟩, .int .i64 a), (⟨w.heap.size, 1, none⟩, .int .i64 b), (⟨w.heap.size, 2, none⟩, .int .i64 d), (⟨w.heap.size, 3, none⟩, .string la), (⟨w.heap.size, 4, none⟩, .string ha), (⟨w.heap.size, 5, none⟩, .bool xa)]) := ⟨fun p hp => by
    simp only [List.mem_cons, List.not_mem_nil, or_false] at hp
    rcases hp with rfl | rfl | rfl | rfl | rfl | rfl | rfl | rfl | rfl | rfl | rfl | rfl
    · exact K0.out.cell (j := 0) rfl
    · exact K0.out.cell (j := 1) rfl
    · exact K0.out.cell (j := 2) rfl
    · exact K0.out.cell (j := 3) rfl
    · exact K0.out.cell (j := 4) rfl
    · exact K0.out.cell (j := 5) rfl
    · exact J0.out.cell (j := 0) rfl
    · exact J0.out.cell (j := 1) rfl
    · exact J0.out.cell (j := 2) rfl
    · exact J0.out.cell (j := 3) rfl
    · exact J0.out.cell (j := 4) rfl
    · exact J0.out.cell (j := 5) rfl, Below.refl _ _⟩
  go_enter Try.func167, Try.ntmps167
  go_wp2_with fail
  rw [HU.out]
  go_region_held3 (fun v => v.cell? ⟨g, 0, none⟩ = some (.string lo) ∧ v.cell? ⟨g, 1, none⟩ = some (.string hi) ∧ v.cell? ⟨g, 2, none⟩ = some (.int .i64 c) ∧ v.cell? ⟨g, 3, none⟩ = some (.int .i64 e) ∧ v.cell? ⟨g, 4, none⟩ = some (.int .i64 n) ∧ v.cell? ⟨g, 5, none⟩ = some (.bool ex) ∧ v.cell? ⟨w.heap.size, 0, none⟩ = some (.int .i64 a) ∧ v.cell? ⟨w.heap.size, 1, none⟩ = some (.int .i64 b) ∧ v.cell? ⟨w.heap.size, 2, none⟩ = some (.int .i64 d) ∧ v.cell? ⟨w.heap.size, 3, none⟩ = some (.string la) ∧ v.cell? ⟨w.heap.size, 4, none⟩ = some (.string ha) ∧ v.cell? ⟨w.heap.size, 5, none⟩ = some (.bool xa) ∧ KL U v [(⟨g, 0, none⟩, .string lo), (⟨g, 1, none⟩, .string hi), (⟨g, 2, none⟩, .int .i64 c), (⟨g, 3, none⟩, .int .i64 e), (⟨g, 4, none⟩, .int .i64 n), (⟨g, 5, none⟩, .bool ex), (⟨w.heap.size, 0, none⟩, .int .i64 a), (⟨w.heap.size, 1, none⟩, .int .i64 b), (⟨w.heap.size, 2, none⟩, .int .i64 d), (⟨w.heap.size, 3, none⟩, .string la), (⟨w.heap.size, 4, none⟩, .string ha), (⟨w.heap.size, 5, none⟩, .bool xa)])
    (first | assumption | exact kl12 (T0.out.call (below_drew _)) | exact kl12c hbC (by assumption))
    (first
      | (go_at_call 94; refine (C1.out _).mono ?_; rintro r w' ⟨rfl, hbC⟩)
      | (go_at_call 168; refine (C2.out _).mono ?_; rintro r w' ⟨rfl, hbC⟩))
  rename_i hS
  have B6 := hid (B0.out.trans (hS.2.2.2.2.2.2.2.2.2.2.2.2.bel.mono B0.out.size))
  clear hS
  go_wp2
  go_ret
  exact ⟨rfl, B6.out⟩
set_option maxHeartbeats 1600000 in
theorem iaFn_any (c e n : Int) (a b d : Int) (la ha : ByteArray) (xa : Bool) (g : Nat) (w : World) (hk : Bk w g 73 [.int .i64 c, .int .i64 e, .int .i64 n]) :
    Calls Try.prog 137 #[.agg #[.int .i64 a, .int .i64 b, .int .i64 d, .string la, .string ha, .bool xa], .pointer (some ⟨g, 0, none⟩)] w fun r w' => r = .returned (.bool (decide ((a, b, d) = (c, e, n)))) ∧ Below w.heap.size w w' := by
  have B0 := hid (below_new (o := .cells #[.int .i64 a, .int .i64 b, .int .i64 d, .string la, .string ha, .bool xa] 75) (w := w) (Below.refl _ _))
  have x0 := hk.cell (j := 0) rfl
  have x1 := hk.cell (j := 1) rfl
  have x2 := hk.cell (j := 2) rfl
  have HGW : g < w.heap.size := hk.lt
  have hq := eql_tx a b d c e n
  have hg := guard_tx .eql
  generalize decide ((a, b, d) = (c, e, n)) = z1 at *
  clear hk
  go_enter Try.func137, Try.ntmps137
  go_wp2
  go_ret
  exact ⟨rfl, B0.out⟩
set_option maxHeartbeats 2000000 in
theorem idxLC_any (S : Nat → Prop) (a : Option Addr) (n c : Nat) (l : List LK) (p0 : Value) (f : LK → Bool) (w : World) (h : Lr w S (.slice a n c) l)
    (HC : ∀ v, Below w.heap.size w v → ∀ (c e n : Int) (lo hi : ByteArray) (ex : Bool), Calls Try.prog 167 #[.agg #[.int .i64 c, .int .i64 e, .int .i64 n, .string lo, .string hi, .bool ex], p0] v fun e' w' => e' = .returned (.bool (f ((c, e, n), (lo, hi), ex))) ∧ Below v.heap.size v w') :
    Calls Try.prog 143 #[.slice a n c, .func (.func 167) #[] #[p0]] w fun e w' => (∃ x : Int, e = .returned (.int .i64 x) ∧ decide (0 ≤ x) = l.any f ∧ -1 ≤ x ∧ x ≤ 9223372036854775807) ∧ Below w.heap.size w w' := by
  have HN := hid (Rw.len h).1
  have bk := (Rw.len h).2
  have H0 := hid h
  have HCL := hid HC
  clear h HC
  go_enter Try.func143, Try.ntmps143
  go_wp2_with fail
  go_loopw [8] (fun i v => ∃ k : Nat, k ≤ n ∧ i = .int .i64 k ∧ Hid (Below w.heap.size w v) ∧ Hid ((l.take k).any f = false)) (fun i _ => n - (intOf i).toNat)
  case atStart => exact ⟨0, Nat.zero_le _, rfl, Below.refl _ _, rfl⟩
  case round =>
    obtain ⟨m, hm, rfl, HB, HT⟩ := hrel
    by_cases hlt : m < n
    · have hlt' : (m : Int) < (n : Int) := by omega
      have hml : m < l.length := by rw [← HN.out]; exact hlt
      obtain ⟨b, off, ha, -, -, hcell⟩ := (H0.out.below HB.out).at (by omega)
      obtain ⟨hc0, hc1, hc2, hc3, hc4, hc5⟩ := hcell m hlt
      clear hcell
      subst ha
      generalize hcur : lAt l m = cur at hc0 hc1 hc2 hc3 hc4 hc5
      have HCU : Hid (l[m]?.getD lk0 = cur) := hcur
      clear hcur
      obtain ⟨⟨cc, ce, cn⟩, ⟨clo, chi⟩, cex⟩ := cur
      have HCA := hid (HCL.out wr HB.out cc ce cn clo chi cex)
      go_wp2_with fail
      refine HCA.out.mono ?_
      rintro e w1 ⟨rfl, hb⟩
      have HB1 := hid (HB.out.trans (hb.mono HB.out.size))
      clear hb HB HCA
      cases h1 : f ((cc, ce, cn), (clo, chi), cex)
      · have HT2 : Hid ((l.take (m + 1)).any f = false) := by
          show _ = false
          rw [anyl_take _ _ lk0 hml, HT.out, HCU.out, h1]; rfl
        go_wp2
        go_roundw
        case rel => exact ⟨m + 1, by omega, by go_num, HB1.out, HT2.out⟩
        case measure => simp [intOf]; omega
      · have HZ : Hid (l.any f = true) := anyl_yes _ _ lk0 hml (by rw [HCU.out]; exact h1)
        go_wp2
        go_ret
        exact ⟨⟨_, rfl, by rw [HZ.out]; simp, by omega, by omega⟩, HB1.out⟩
    · have HA : Hid (l.any f = false) := by
        have := HT.out
        rwa [List.take_of_length_le (by rw [← HN.out]; omega)] at this
      go_wp2
      go_ret
      exact ⟨⟨_, rfl, by rw [HA.out]; decide, by omega, by omega⟩, HB.out⟩
set_option maxHeartbeats 800000 in
theorem hasLC_any (S : Nat → Prop) (a : Option Addr) (n c : Nat) (l : List LK) (p0 : Value) (f : LK → Bool) (w : World) (h : Lr w S (.slice a n c) l)
    (HC : ∀ v, Below w.heap.size w v → ∀ (c e n : Int) (lo hi : ByteArray) (ex : Bool), Calls Try.prog 167 #[.agg #[.int .i64 c, .int .i64 e, .int .i64 n, .string lo, .string hi, .bool ex], p0] v fun e' w' => e' = .returned (.bool (f ((c, e, n), (lo, hi), ex))) ∧ Below v.heap.size v w') :
    Calls Try.prog 92 #[.slice a n c, .func (.func 167) #[] #[p0]] w fun e w' => e = .returned (.bool (l.any f)) ∧ Below w.heap.size w w' := by
  have H0 := hid (idxLC_any S a n c l p0 f w h HC)
  clear h HC
  go_enter Try.func92, Try.ntmps92
  go_wp2_with fail
  refine H0.out.mono ?_
  rintro e w1 ⟨⟨x, rfl, hx, h0, h1⟩, hb⟩
  have HX := hid hx
  have HB := hid hb
  clear hx hb
  go_wp2
  go_ret
  exact ⟨by rw [← HX.out]; rfl, HB.out⟩
set_option maxHeartbeats 2000000 in
theorem idxLA_any (S : Nat → Prop) (a : Option Addr) (n c : Nat) (l : List LK) (p0 : Value) (f : LK → Bool) (w : World) (h : Lr w S (.slice a n c) l)
    (HC : ∀ v, Below w.heap.size w v → ∀ (c e n : Int) (lo hi : ByteArray) (ex : Bool), Calls Try.prog 137 #[.agg #[.int .i64 c, .int .i64 e, .int .i64 n, .string lo, .string hi, .bool ex], p0] v fun e' w' => e' = .returned (.bool (f ((c, e, n), (lo, hi), ex))) ∧ Below v.heap.size v w') :
    Calls Try.prog 143 #[.slice a n c, .func (.func 137) #[] #[p0]] w fun e w' => (∃ x : Int, e = .returned (.int .i64 x) ∧ decide (0 ≤ x) = l.any f ∧ -1 ≤ x ∧ x ≤ 9223372036854775807) ∧ Below w.heap.size w w' := by
  have HN := hid (Rw.len h).1
  have bk := (Rw.len h).2
  have H0 := hid h
  have HCL := hid HC
  clear h HC
  go_enter Try.func143, Try.ntmps143
  go_wp2_with fail
  go_loopw [8] (fun i v => ∃ k : Nat, k ≤ n ∧ i = .int .i64 k ∧ Hid (Below w.heap.size w v) ∧ Hid ((l.take k).any f = false)) (fun i _ => n - (intOf i).toNat)
  case atStart => exact ⟨0, Nat.zero_le _, rfl, Below.refl _ _, rfl⟩
  case round =>
    obtain ⟨m, hm, rfl, HB, HT⟩ := hrel
    by_cases hlt : m < n
    · have hlt' : (m : Int) < (n : Int) := by omega
      have hml : m < l.length := by rw [← HN.out]; exact hlt
      obtain ⟨b, off, ha, -, -, hcell⟩ := (H0.out.below HB.out).at (by omega)
      obtain ⟨hc0, hc1, hc2, hc3, hc4, hc5⟩ := hcell m hlt
      clear hcell
      subst ha
      generalize hcur : lAt l m = cur at hc0 hc1 hc2 hc3 hc4 hc5
      have HCU : Hid (l[m]?.getD lk0 = cur) := hcur
      clear hcur
      obtain ⟨⟨cc, ce, cn⟩, ⟨clo, chi⟩, cex⟩ := cur
      have HCA := hid (HCL.out wr HB.out cc ce cn clo chi cex)
      go_wp2_with fail
      refine HCA.out.mono ?_
      rintro e w1 ⟨rfl, hb⟩
      have HB1 := hid (HB.out.trans (hb.mono HB.out.size))
      clear hb HB HCA
      cases h1 : f ((cc, ce, cn), (clo, chi), cex)
      · have HT2 : Hid ((l.take (m + 1)).any f = false) := by
          show _ = false
          rw [anyl_take _ _ lk0 hml, HT.out, HCU.out, h1]; rfl
        go_wp2
        go_roundw
        case rel => exact ⟨m + 1, by omega, by go_num, HB1.out, HT2.out⟩
        case measure => simp [intOf]; omega
      · have HZ : Hid (l.any f = true) := anyl_yes _ _ lk0 hml (by rw [HCU.out]; exact h1)
        go_wp2
        go_ret
        exact ⟨⟨_, rfl, by rw [HZ.out]; simp, by omega, by omega⟩, HB1.out⟩
    · have HA : Hid (l.any f = false) := by
        have := HT.out
        rwa [List.take_of_length_le (by rw [← HN.out]; omega)] at this
      go_wp2
      go_ret
      exact ⟨⟨_, rfl, by rw [HA.out]; decide, by omega, by omega⟩, HB.out⟩
set_option maxHeartbeats 800000 in
theorem hasLA_any (S : Nat → Prop) (a : Option Addr) (n c : Nat) (l : List LK) (p0 : Value) (f : LK → Bool) (w : World) (h : Lr w S (.slice a n c) l)
    (HC : ∀ v, Below w.heap.size w v → ∀ (c e n : Int) (lo hi : ByteArray) (ex : Bool), Calls Try.prog 137 #[.agg #[.int .i64 c, .int .i64 e, .int .i64 n, .string lo, .string hi, .bool ex], p0] v fun e' w' => e' = .returned (.bool (f ((c, e, n), (lo, hi), ex))) ∧ Below v.heap.size v w') :
    Calls Try.prog 92 #[.slice a n c, .func (.func 137) #[] #[p0]] w fun e w' => e = .returned (.bool (l.any f)) ∧ Below w.heap.size w w' := by
  have H0 := hid (idxLA_any S a n c l p0 f w h HC)
  clear h HC
  go_enter Try.func92, Try.ntmps92
  go_wp2_with fail
  refine H0.out.mono ?_
  rintro e w1 ⟨⟨x, rfl, hx, h0, h1⟩, hb⟩
  have HX := hid hx
  have HB := hid hb
  clear hx hb
  go_wp2
  go_ret
  exact ⟨by rw [← HX.out]; rfl, HB.out⟩
set_option maxHeartbeats 2000000 in
theorem idxLH_any (S : Nat → Prop) (a : Option Addr) (n c : Nat) (l : List LK) (p0 p1 p2 : Value) (f : LK → Bool) (w : World) (h : Lr w S (.slice a n c) l)
    (HC : ∀ v, Below w.heap.size w v → ∀ (c e n : Int) (lo hi : ByteArray) (ex : Bool), Calls Try.prog 93 #[.agg #[.int .i64 c, .int .i64 e, .int .i64 n, .string lo, .string hi, .bool ex], p0, p1, p2] v fun e' w' => e' = .returned (.bool (f ((c, e, n), (lo, hi), ex))) ∧ Below v.heap.size v w') :
    Calls Try.prog 143 #[.slice a n c, .func (.func 93) #[] #[p0, p1, p2]] w fun e w' => (∃ x : Int, e = .returned (.int .i64 x) ∧ decide (0 ≤ x) = l.any f ∧ -1 ≤ x ∧ x ≤ 9223372036854775807) ∧ Below w.heap.size w w' := by
  have HN := hid (Rw.len h).1
  have bk := (Rw.len h).2
  have H0 := hid h
  have HCL := hid HC
  clear h HC
  go_enter Try.func143, Try.ntmps143
  go_wp2_with fail
  go_loopw [8] (fun i v => ∃ k : Nat, k ≤ n ∧ i = .int .i64 k ∧ Hid (Below w.heap.size w v) ∧ Hid ((l.take k).any f = false)) (fun i _ => n - (intOf i).toNat)
  case atStart => exact ⟨0, Nat.zero_le _, rfl, Below.refl _ _, rfl⟩
  case round =>
    obtain ⟨m, hm, rfl, HB, HT⟩ := hrel
    by_cases hlt : m < n
    · have hlt' : (m : Int) < (n : Int) := by omega
      have hml : m < l.length := by rw [← HN.out]; exact hlt
      obtain ⟨b, off, ha, -, -, hcell⟩ := (H0.out.below HB.out).at (by omega)
      obtain ⟨hc0, hc1, hc2, hc3, hc4, hc5⟩ := hcell m hlt
      clear hcell
      subst ha
      generalize hcur : lAt l m = cur at hc0 hc1 hc2 hc3 hc4 hc5
      have HCU : Hid (l[m]?.getD lk0 = cur) := hcur
      clear hcur
      obtain ⟨⟨cc, ce, cn⟩, ⟨clo, chi⟩, cex⟩ := cur
      have HCA := hid (HCL.out wr HB.out cc ce cn clo chi cex)
      go_wp2_with fail
      refine HCA.out.mono ?_
      rintro e w1 ⟨rfl, hb⟩
      have HB1 := hid (HB.out.trans (hb.mono HB.out.size))
      clear hb HB HCA
      cases h1 : f ((cc, ce, cn), (clo, chi), cex)
      · have HT2 : Hid ((l.take (m + 1)).any f = false) := by
          show _ = false
          rw [anyl_take _ _ lk0 hml, HT.out, HCU.out, h1]; rfl
        go_wp2
        go_roundw
        case rel => exact ⟨m + 1, by omega, by go_num, HB1.out, HT2.out⟩
        case measure => simp [intOf]; omega
      · have HZ : Hid (l.any f = true) := anyl_yes _ _ lk0 hml (by rw [HCU.out]; exact h1)
        go_wp2
        go_ret
        exact ⟨⟨_, rfl, by rw [HZ.out]; simp, by omega, by omega⟩, HB1.out⟩
    · have HA : Hid (l.any f = false) := by
        have := HT.out
        rwa [List.take_of_length_le (by rw [← HN.out]; omega)] at this
      go_wp2
      go_ret
      exact ⟨⟨_, rfl, by rw [HA.out]; decide, by omega, by omega⟩, HB.out⟩
set_option maxHeartbeats 800000 in
theorem hasLH_any (S : Nat → Prop) (a : Option Addr) (n c : Nat) (l : List LK) (p0 p1 p2 : Value) (f : LK → Bool) (w : World) (h : Lr w S (.slice a n c) l)
    (HC : ∀ v, Below w.heap.size w v → ∀ (c e n : Int) (lo hi : ByteArray) (ex : Bool), Calls Try.prog 93 #[.agg #[.int .i64 c, .int .i64 e, .int .i64 n, .string lo, .string hi, .bool ex], p0, p1, p2] v fun e' w' => e' = .returned (.bool (f ((c, e, n), (lo, hi), ex))) ∧ Below v.heap.size v w') :
    Calls Try.prog 92 #[.slice a n c, .func (.func 93) #[] #[p0, p1, p2]] w fun e w' => e = .returned (.bool (l.any f)) ∧ Below w.heap.size w w' := by
  have H0 := hid (idxLH_any S a n c l p0 p1 p2 f w h HC)
  clear h HC
  go_enter Try.func92, Try.ntmps92
  go_wp2_with fail
  refine H0.out.mono ?_
  rintro e w1 ⟨⟨x, rfl, hx, h0, h1⟩, hb⟩
  have HX := hid hx
  have HB := hid hb
  clear hx hb
  go_wp2
  go_ret
  exact ⟨by rw [← HX.out]; rfl, HB.out⟩
set_option maxHeartbeats 1600000 in
theorem cwa_any (c e n : Int) (lo hi : ByteArray) (ex : Bool) (S : Nat → Prop) (a : Option Addr) (m k : Nat) (l : List LK) (w : World) (h : Lr w S (.slice a m k) l) :
    Calls Try.prog 142 #[.agg #[.string lo, .string hi, .int .i64 c, .int .i64 e, .int .i64 n, .bool ex], .slice a m k] w fun r w' => r = .returned (.bool (anyC l ((c, e, n), (lo, hi), ex))) ∧ Below w.heap.size w w' := by
  have B0 := hid (below_new (o := .cells #[.string lo, .string hi, .int .i64 c, .int .i64 e, .int .i64 n, .bool ex] 149) (w := w) (Below.refl _ _))
  have K0 := hid (Bk.new w 149 [.string lo, .string hi, .int .i64 c, .int .i64 e, .int .i64 n, .bool ex])
  have HL := hid (h.below B0.out)
  have C1 := hid (hasLC_any S a m k l (.pointer (some ⟨w.heap.size, 0, none⟩)) (clash ((c, e, n), (lo, hi), ex)) _ HL.out (fun v hv a b d la ha xa => cwaFn_any c e n lo hi ex a b d la ha xa w.heap.size v (K0.out.below hv)))
  rw [← anyC_def] at C1
  generalize anyC l ((c, e, n), (lo, hi), ex) = z at *
  clear h
  go_enter Try.func142, Try.ntmps142
  go_wp2_with fail
  refine C1.out.mono ?_
  rintro r w1 ⟨rfl, hb⟩
  have B1 := hid (B0.out.trans (hb.mono B0.out.size))
  clear hb
  go_wp2
  go_ret
  exact ⟨rfl, B1.out⟩
set_option maxHeartbeats 1600000 in
theorem isAmong_any (c e n : Int) (S : Nat → Prop) (a : Option Addr) (m k : Nat) (l : List LK) (w : World) (h : Lr w S (.slice a m k) l) :
    Calls Try.prog 80 #[.slice a m k, .agg #[.int .i64 c, .int .i64 e, .int .i64 n]] w fun r w' => r = .returned (.bool (hasT l (c, e, n))) ∧ Below w.heap.size w w' := by
  have B0 := hid (below_new (o := .cells #[.int .i64 c, .int .i64 e, .int .i64 n] 73) (w := w) (Below.refl _ _))
  have K0 := hid (Bk.new w 73 [.int .i64 c, .int .i64 e, .int .i64 n])
  have HL := hid (h.below B0.out)
  have C1 := hid (hasLA_any S a m k l (.pointer (some ⟨w.heap.size, 0, none⟩)) (fun y => decide (y.1 = (c, e, n))) _ HL.out (fun v hv a b d la ha xa => iaFn_any c e n a b d la ha xa w.heap.size v (K0.out.below hv)))
  rw [← hasT_def] at C1
  generalize hasT l (c, e, n) = z at *
  clear h
  go_enter Try.func80, Try.ntmps80
  go_wp2_with fail
  refine C1.out.mono ?_
  rintro r w1 ⟨rfl, hb⟩
  have B1 := hid (B0.out.trans (hb.mono B0.out.size))
  clear hb
  go_wp2
  go_ret
  exact ⟨rfl, B1.out⟩
set_option maxHeartbeats 2000000 in
theorem l07Any_any (c e n : Int) (lo hi : ByteArray) (ex : Bool) (S : Nat → Prop) (a : Option Addr) (m k : Nat) (l : List LK) (w : World) (h : Lr w S (.slice a m k) l) :
    Calls Try.prog 88 #[.slice a m k, .agg #[.int .i64 c, .int .i64 e, .int .i64 n, .string lo, .string hi, .bool ex]] w fun r w' => r = .returned (.bool (anyC l ((c, e, n), (lo, hi), ex))) ∧ Below w.heap.size w w' := by
  have B0 := hid (below_new (o := .cells #[.int .i64 c, .int .i64 e, .int .i64 n, .string lo, .string hi, .bool ex] 75) (w := w) (Below.refl _ _))
  have K0 := hid (Bk.new w 75 [.int .i64 c, .int .i64 e, .int .i64 n, .string lo, .string hi, .bool ex])
  have HN := hid (Rw.len h).1
  have bk := (Rw.len h).2
  have H0 := hid (h.below B0.out)
  have HCL := hid (fun a b d la ha xa w => l07Clash_any c e n lo hi ex a b d la ha xa w)
  rw [anyC_def]
  generalize clash ((c, e, n), (lo, hi), ex) = f at *
  clear h
  generalize hU : w.alloc (.cells #[.int .i64 c, .int .i64 e, .int .i64 n, .string lo, .string hi, .bool ex] 75) = U at *
  have HU := hid hU
  clear hU
  go_enter Try.func88, Try.ntmps88
  go_wp2_with fail
  rw [HU.out]
  go_loopw [9] (fun i v => ∃ k : Nat, k ≤ m ∧ i = .int .i64 k ∧ Hid (Below U.heap.size U v) ∧ Hid ((l.take k).any f = false)) (fun i _ => m - (intOf i).toNat)
  case atStart => exact ⟨0, Nat.zero_le _, rfl, Below.refl _ _, rfl⟩
  case round =>
    obtain ⟨j, hj, rfl, HB, HT⟩ := hrel
    by_cases hlt : j < m
    · have hlt' : (j : Int) < (m : Int) := by omega
      have hml : j < l.length := by rw [← HN.out]; exact hlt
      obtain ⟨b, off, ha, -, -, hcell⟩ := (H0.out.below HB.out).at (by omega)
      obtain ⟨hc0, hc1, hc2, hc3, hc4, hc5⟩ := hcell j hlt
      clear hcell
      subst ha
      generalize hcur : lAt l j = cur at hc0 hc1 hc2 hc3 hc4 hc5
      have HCU : Hid (l[j]?.getD lk0 = cur) := hcur
      clear hcur
      obtain ⟨⟨cc, ce, cn⟩, ⟨clo, chi⟩, cex⟩ := cur
      have K1 := hid (K0.out.below HB.out)
      have k0 := K1.out.lt
      have x0 := K1.out.cell (j := 0) rfl
      have x1 := K1.out.cell (j := 1) rfl
      have x2 := K1.out.cell (j := 2) rfl
      have x3 := K1.out.cell (j := 3) rfl
      have x4 := K1.out.cell (j := 4) rfl
      have x5 := K1.out.cell (j := 5) rfl
      have B1 : Hid (Below U.heap.size U (wr.alloc (.cells #[.int .i64 cc, .int .i64 ce, .int .i64 cn, .string clo, .string chi, .bool cex] 75))) := HB.out.trans (below_new (Below.refl _ _) |>.mono HB.out.size)
      go_wp2_with fail
      refine (HCL.out cc ce cn clo chi cex _).mono ?_
      rintro e w1 ⟨rfl, hb⟩
      have HB1 := hid (B1.out.trans (hb.mono B1.out.size))
      clear hb HB B1 x0 x1 x2 x3 x4 x5 K1
      cases h1 : f ((cc, ce, cn), (clo, chi), cex)
      · have HT2 : Hid ((l.take (j + 1)).any f = false) := by
          show _ = false
          rw [anyl_take _ _ lk0 hml, HT.out, HCU.out, h1]; rfl
        go_wp2
        go_roundw
        case rel => exact ⟨j + 1, by omega, by go_num, HB1.out, HT2.out⟩
        case measure => simp [intOf]; omega
      · have HZ : Hid (l.any f = true) := anyl_yes _ _ lk0 hml (by rw [HCU.out]; exact h1)
        go_wp2
        go_ret
        exact ⟨by rw [HZ.out]; rfl, B0.out.trans (HB1.out.mono B0.out.size)⟩
    · have HA : Hid (l.any f = false) := by
        have := HT.out
        rwa [List.take_of_length_le (by rw [← HN.out]; omega)] at this
      go_wp2
      go_ret
      exact ⟨by rw [HA.out]; rfl, B0.out.trans (HB.out.mono B0.out.size)⟩
set_option maxHeartbeats 2000000 in
theorem l07Waits_any (c e n : Int) (S : Nat → Prop) (hv : Value) (a : Option Addr) (m k : Nat) (l : List LK) (w : World) (hone : hv.oneCell' = true) (h : Lr w S (.slice a m k) l) :
    Calls Try.prog 86 #[.agg #[hv, .slice a m k], .agg #[.int .i64 c, .int .i64 e, .int .i64 n]] w fun r w' => r = .returned (.bool (hasT l (c, e, n))) ∧ Below w.heap.size w w' := by
  have B0 := hid (below_new (o := .cells #[hv, .slice a m k] 71) (w := w) (below_new (o := .cells #[.int .i64 c, .int .i64 e, .int .i64 n] 73) (w := w.alloc (.cells #[hv, .slice a m k] 71)) (Below.refl _ _)))
  have K0 := hid (Bk.new (w.alloc (.cells #[hv, .slice a m k] 71)) 73 [.int .i64 c, .int .i64 e, .int .i64 n])
  rw [show (w.alloc (.cells #[hv, .slice a m k] 71)).heap.size = w.heap.size + 1 by simp] at K0
  have HN := hid (Rw.len h).1
  have bk := (Rw.len h).2
  have H0 := hid (h.below B0.out)
  rw [hasT_def]
  have hq := fun a b d => eql_tx a b d c e n
  have hg := guard_tx .eql
  have HF : Hid (∀ a b d la ha xa, (fun y : LK => decide (y.1 = (c, e, n))) ((a, b, d), (la, ha), xa) = decide ((a, b, d) = (c, e, n))) := fun _ _ _ _ _ _ => rfl
  generalize (fun y : LK => decide (y.1 = (c, e, n))) = f at *
  clear h
  generalize hU : (w.alloc (.cells #[hv, .slice a m k] 71)).alloc (.cells #[.int .i64 c, .int .i64 e, .int .i64 n] 73) = U at *
  have HU := hid hU
  clear hU
  go_enter Try.func86, Try.ntmps86
  go_wp2_with fail
  rw [HU.out]
  go_loopw [10] (fun i v => ∃ k : Nat, k ≤ m ∧ i = .int .i64 k ∧ Hid (Below U.heap.size U v) ∧ Hid ((l.take k).any f = false)) (fun i _ => m - (intOf i).toNat)
  case atStart => exact ⟨0, Nat.zero_le _, rfl, Below.refl _ _, rfl⟩
  case round =>
    obtain ⟨j, hj, rfl, HB, HT⟩ := hrel
    by_cases hlt : j < m
    · have hlt' : (j : Int) < (m : Int) := by omega
      have hml : j < l.length := by rw [← HN.out]; exact hlt
      obtain ⟨b, off, ha, -, -, hcell⟩ := (H0.out.below HB.out).at (by omega)
      obtain ⟨hc0, hc1, hc2, hc3, hc4, hc5⟩ := hcell j hlt
      clear hcell
      subst ha
      generalize hcur : lAt l j = cur at hc0 hc1 hc2 hc3 hc4 hc5
      have HCU : Hid (l[j]?.getD lk0 = cur) := hcur
      clear hcur
      obtain ⟨⟨cc, ce, cn⟩, ⟨clo, chi⟩, cex⟩ := cur
      have K1 := hid (K0.out.below HB.out)
      have k0 := K1.out.lt
      have x0 := K1.out.cell (j := 0) rfl
      have x1 := K1.out.cell (j := 1) rfl
      have x2 := K1.out.cell (j := 2) rfl
      have HB1 : Hid (Below U.heap.size U (wr.alloc (.cells #[.int .i64 cc, .int .i64 ce, .int .i64 cn, .string clo, .string chi, .bool cex] 75))) := HB.out.trans (below_new (Below.refl _ _) |>.mono HB.out.size)
      have hq1 := hq cc ce cn
      have HF1 := hid (HF.out cc ce cn clo chi cex)
      clear hq HF
      generalize decide ((cc, ce, cn) = (c, e, n)) = z at *
      cases z with
      | false =>
        have HT2 : Hid ((l.take (j + 1)).any f = false) := by
          show _ = false
          rw [anyl_take _ _ lk0 hml, HT.out, HCU.out, HF1.out]; rfl
        go_wp2
        go_roundw
        case rel => exact ⟨j + 1, by omega, by go_num, HB1.out, HT2.out⟩
        case measure => simp [intOf]; omega
      | true =>
        have HZ : Hid (l.any f = true) := anyl_yes _ _ lk0 hml (by rw [HCU.out]; exact HF1.out)
        go_wp2
        go_ret
        exact ⟨by rw [HZ.out]; rfl, B0.out.trans (HB1.out.mono B0.out.size)⟩
    · have HA : Hid (l.any f = false) := by
        have := HT.out
        rwa [List.take_of_length_le (by rw [← HN.out]; omega)] at this
      clear hq HF
      go_wp2
      go_ret
      exact ⟨by rw [HA.out]; rfl, B0.out.trans (HB.out.mono B0.out.size)⟩
end Go.Proofs.Ytcpdedpgjaimkaa
/-
  Tables of locks that are right: the program's side.
-/
namespace Go.Proofs.Ytcpdedpgjaimkaa
open Go.RowKit
set_option linter.unusedVariables false
theorem lr_kc {u v : World} {S : Nat → Prop} {x : Value} {l : List LK} {a0 a1 a2 a3 a4 a5 : Addr} {x0 x1 x2 x3 x4 x5 : Value} (h : Lr u S x l) (k : v.cell? a0 = some x0 ∧ v.cell? a1 = some x1 ∧ v.cell? a2 = some x2 ∧ v.cell? a3 = some x3 ∧ v.cell? a4 = some x4 ∧ v.cell? a5 = some x5 ∧ KC u v [(a0, x0), (a1, x1), (a2, x2), (a3, x3), (a4, x4), (a5, x5)]) : Lr v S x l := h.below k.2.2.2.2.2.2.bel
theorem Bk.kc6 {w : World} {g : Nat} {T : TypeId} {x0 x1 x2 x3 x4 x5 : Value} (h : Bk w g T [x0, x1, x2, x3, x4, x5]) : KC w w [(⟨g, 0, none⟩, x0), (⟨g, 1, none⟩, x1), (⟨g, 2, none⟩, x2), (⟨g, 3, none⟩, x3), (⟨g, 4, none⟩, x4), (⟨g, 5, none⟩, x5)] :=
  kc0_6 (h.cell (j := 0) rfl) (h.cell (j := 1) rfl) (h.cell (j := 2) rfl) (h.cell (j := 3) rfl) (h.cell (j := 4) rfl) (h.cell (j := 5) rfl)
theorem hpk_def (l : List LK) (j : Nat) : hpk l j = (lkOk (lAt l j) && !anyC (l.take j) (lAt l j)) := rfl
theorem wpk_def (h l : List LK) (j : Nat) : wpk h l j = (lkOk (lAt l j) && (!hasT (l.take j) (lAt l j).1 && (anyC h (lAt l j) || anyC (l.take j) (lAt l j)))) := rfl
theorem heldB_def (l : List LK) : heldB l = (List.range l.length).all (hpk l) := rfl
theorem waitB_def (h l : List LK) : waitB h l = (List.range l.length).all (wpk h l) := rfl
theorem lksOk_def (h l : List LK) : lksOk h l = (decide (h.length + l.length ≤ 60) && (heldB h && waitB h l)) := rfl
theorem mustW_def (h l : List LK) (x : LK) : mustW h l x = (anyC h x || anyC l x) := rfl
set_option maxHeartbeats 4000000 in
theorem heldOk_any (S : Nat → Prop) (a : Option Addr) (m k : Nat) (l : List LK) (w : World) (h : Lr w S (.slice a m k) l) :
    Calls Try.prog 90 #[.slice a m k] w fun r w' => r = .returned (.bool (heldB l)) ∧ Below w.heap.size w w' := by
  have HN := hid (Rw.len h).1
  have bk := (Rw.len h).2
  have H0 := hid h
  have HV := hid (heldB_def l)
  rw [← HN.out] at HV
  clear h
  have hnot : ∀ (x : Bool) (w : World), (Op.unary .not (.bool x)).run Try.prog w = .ok (.bool (!x)) w := fun _ _ => rfl
  go_enter Try.func90, Try.ntmps90
  go_wp2_with fail
  go_loopw [7] (fun i v => ∃ j : Nat, j ≤ m ∧ i = .int .i64 j ∧ Hid (Below w.heap.size w v) ∧ Hid ((List.range j).all (hpk l) = true)) (fun i _ => m - (intOf i).toNat)
  case atStart => exact ⟨0, Nat.zero_le _, rfl, Below.refl _ _, rfl⟩
  case round =>
    obtain ⟨j, hj, rfl, HB, HT⟩ := hrel
    by_cases hlt : j < m
    · have hlt' : (j : Int) < (m : Int) := by omega
      have hml : j < l.length := by rw [← HN.out]; exact hlt
      have HR := hid (H0.out.below HB.out)
      obtain ⟨b, off, ha, -, -, hcell⟩ := HR.out.at (by omega)
      obtain ⟨hc0, hc1, hc2, hc3, hc4, hc5⟩ := hcell j hlt
      clear hcell
      subst ha
      have HNO : Hid (hpk l j = false → (List.range m).all (hpk l) = false) := rall_no _ hlt
      have HYES : Hid ((List.range (j + 1)).all (hpk l) = ((List.range j).all (hpk l) && hpk l j)) := rall_succ _ _
      have HP := hid (hpk_def l j)
      have HFR := hid (HR.out.first j (by omega))
      generalize lAt l j = cur at hc0 hc1 hc2 hc3 hc4 hc5 HP
      obtain ⟨⟨cc, ce, cn⟩, ⟨clo, chi⟩, cex⟩ := cur
      have B1 : Hid (Below w.heap.size w (wr.alloc (.cells #[.int .i64 cc, .int .i64 ce, .int .i64 cn, .string clo, .string chi, .bool cex] 75))) := HB.out.trans (below_new (Below.refl _ _) |>.mono HB.out.size)
      have T1 := hid (Bk.new wr 75 [.int .i64 cc, .int .i64 ce, .int .i64 cn, .string clo, .string chi, .bool cex]).kc6
      have HR1 := hid (HFR.out.below (below_new (o := .cells #[.int .i64 cc, .int .i64 ce, .int .i64 cn, .string clo, .string chi, .bool cex] 75) (w := wr) (Below.refl _ _)))
      have C1 := hid (fun w => implLockOk_any cc ce cn clo chi cex w)
      have C2 := hid (fun w => claimOf_any cc ce cn clo chi cex w)
      have C3 : Hid (∀ v, Lr v S (.slice (some ⟨b, off, none⟩) j k) (l.take j) → Calls Try.prog 142 #[.agg #[.string clo, .string chi, .int .i64 cc, .int .i64 ce, .int .i64 cn, .bool cex], .slice (some ⟨b, off, none⟩) j k] v fun r w' => r = .returned (.bool (anyC (l.take j) ((cc, ce, cn), (clo, chi), cex))) ∧ Below v.heap.size v w') := fun v hv => cwa_any cc ce cn clo chi cex S _ j k (l.take j) v hv
      generalize lkOk ((cc, ce, cn), (clo, chi), cex) = z1 at *
      generalize anyC (l.take j) ((cc, ce, cn), (clo, chi), cex) = z2 at *
      have hjk : (j : Int) ≤ (k : Int) := by omega
      have hk0 : ¬ k = 0 := by omega
      have hk63 : (k : Int) ≤ 9223372036854775807 := by omega
      have hj0 : (0 : Int) ≤ (j : Int) := by omega
      clear HR HFR hml
      go_wp2_with fail
      generalize hU : wr.alloc (.cells #[.int .i64 cc, .int .i64 ce, .int .i64 cn, .string clo, .string chi, .bool cex] 75) = U at *
      generalize wr.heap.size = g at *
      clear hU
      cases z1 with
      | false =>
        have HZ := hid (HNO.out (by rw [HP.out]; rfl))
        obtain ⟨x0, x1, x2, x3, x4, x5, -⟩ := kc6 T1.out
        first | go_region_with (first
              | (go_at_call 79; refine (C1.out _).mono ?_; rintro r w' ⟨rfl, hbC⟩)) | fail
        all_goals (have B6 := hid (B1.out.trans (((below_drew _).trans hbC).mono B1.out.size)); clear hbC; go_wp2; go_ret; exact ⟨by rw [HV.out, HZ.out]; rfl, B6.out⟩)
      | true =>
        first | go_region_held3 (fun v => v.cell? ⟨g, 0, none⟩ = some (.int .i64 cc) ∧ v.cell? ⟨g, 1, none⟩ = some (.int .i64 ce) ∧ v.cell? ⟨g, 2, none⟩ = some (.int .i64 cn) ∧ v.cell? ⟨g, 3, none⟩ = some (.string clo) ∧ v.cell? ⟨g, 4, none⟩ = some (.string chi) ∧ v.cell? ⟨g, 5, none⟩ = some (.bool cex) ∧ KC U v [(⟨g, 0, none⟩, .int .i64 cc), (⟨g, 1, none⟩, .int .i64 ce), (⟨g, 2, none⟩, .int .i64 cn), (⟨g, 3, none⟩, .string clo), (⟨g, 4, none⟩, .string chi), (⟨g, 5, none⟩, .bool cex)])
            (first | assumption | exact kc6 (T1.out.call (below_drew _)) | exact kc6c hbC (by assumption))
            (first
              | (go_at_call 79; refine (C1.out _).mono ?_; rintro r w' ⟨rfl, hbC⟩)
              | (go_at_call 94; refine (C2.out _).mono ?_; rintro r w' ⟨rfl, hbC⟩)
              | (go_at_call 142; refine (C3.out _ (lr_kc HR1.out (by assumption))).mono ?_; rintro r w' ⟨rfl, hbC⟩)) | fail
        rename_i hS
        have B6 := hid (B1.out.trans (hS.2.2.2.2.2.2.bel.mono B1.out.size))
        clear hS
        cases z2 with
        | false =>
          have HY : Hid ((List.range (j + 1)).all (hpk l) = true) := by
            show _ = true
            rw [HYES.out, HT.out, HP.out]; rfl
          go_wp2
          go_roundw
          case rel => exact ⟨j + 1, by omega, by go_num, B6.out, HY.out⟩
          case measure => simp [intOf]; omega
        | true =>
          have HZ := hid (HNO.out (by rw [HP.out]; rfl))
          go_wp2
          go_ret
          exact ⟨by rw [HV.out, HZ.out]; rfl, B6.out⟩
    · have HA : Hid (heldB l = true) := by
        show _ = true
        rw [HV.out]
        rw [show m = j by omega]
        exact HT.out
      go_wp2
      go_ret
      exact ⟨by rw [HA.out]; rfl, HB.out⟩
end Go.Proofs.Ytcpdedpgjaimkaa
/-
  Tables of locks that are right: the program's side, whole.
-/
namespace Go.Proofs.Ytcpdedpgjaimkaa
open Go.RowKit
set_option linter.unusedVariables false
set_option maxHeartbeats 4000000 in
theorem mustWait_any (S S' : Nat → Prop) (ha : Option Addr) (hn hc : Nat) (wa : Option Addr) (wn wc : Nat) (hl wl : List LK) (c e n : Int) (lo hi : ByteArray) (ex : Bool) (w : World) (h1 : Lr w S (.slice ha hn hc) hl) (h2 : Lr w S' (.slice wa wn wc) wl) :
    Calls Try.prog 138 #[.agg #[.slice ha hn hc, .slice wa wn wc], .agg #[.int .i64 c, .int .i64 e, .int .i64 n, .string lo, .string hi, .bool ex]] w fun r w' => r = .returned (.bool (mustW hl wl ((c, e, n), (lo, hi), ex))) ∧ Below w.heap.size w w' := by
  have B0 := hid (below_new (o := .cells #[.slice ha hn hc, .slice wa wn wc] 71) (w := w) (below_new (o := .cells #[.int .i64 c, .int .i64 e, .int .i64 n, .string lo, .string hi, .bool ex] 75) (w := w.alloc (.cells #[.slice ha hn hc, .slice wa wn wc] 71)) (Below.refl _ _)))
  have K0 := hid ((Bk.new w 71 [.slice ha hn hc, .slice wa wn wc]).alloc (.cells #[.int .i64 c, .int .i64 e, .int .i64 n, .string lo, .string hi, .bool ex] 75))
  have J0 := hid (Bk.new (w.alloc (.cells #[.slice ha hn hc, .slice wa wn wc] 71)) 75 [.int .i64 c, .int .i64 e, .int .i64 n, .string lo, .string hi, .bool ex])
  rw [show (w.alloc (.cells #[.slice ha hn hc, .slice wa wn wc] 71)).heap.size = w.heap.size + 1 by simp] at J0
  have P0 := hid (h1.below B0.out)
  have Q0 := hid (h2.below B0.out)
  have HV := hid (mustW_def hl wl ((c, e, n), (lo, hi), ex))
  have C1 := hid (fun w => claimOf_any c e n lo hi ex w)
  have C2 : Hid (∀ v, Lr v S (.slice ha hn hc) hl → Calls Try.prog 142 #[.agg #[.string lo, .string hi, .int .i64 c, .int .i64 e, .int .i64 n, .bool ex], .slice ha hn hc] v fun r w' => r = .returned (.bool (anyC hl ((c, e, n), (lo, hi), ex))) ∧ Below v.heap.size v w') := fun v hv => cwa_any c e n lo hi ex S _ _ _ hl v hv
  have C3 : Hid (∀ v, Lr v S' (.slice wa wn wc) wl → Calls Try.prog 142 #[.agg #[.string lo, .string hi, .int .i64 c, .int .i64 e, .int .i64 n, .bool ex], .slice wa wn wc] v fun r w' => r = .returned (.bool (anyC wl ((c, e, n), (lo, hi), ex))) ∧ Below v.heap.size v w') := fun v hv => cwa_any c e n lo hi ex S' _ _ _ wl v hv
  clear h1 h2
  generalize anyC hl ((c, e, n), (lo, hi), ex) = z1 at *
  generalize anyC wl ((c, e, n), (lo, hi), ex) = z2 at *
  go_enter Try.func138, Try.ntmps138
  go_wp2_with fail
  refine (C1.out _).mono ?_
  generalize (w.alloc (.cells #[.slice ha hn hc, .slice wa wn wc] 71)).alloc (.cells #[.int .i64 c, .int .i64 e, .int .i64 n, .string lo, .string hi, .bool ex] 75) = U at *
  rintro r w1 ⟨rfl, hb⟩
  have K1 := hid (K0.out.below hb)
  have P1 := hid (P0.out.below hb)
  have Q1 := hid (Q0.out.below hb)
  have B1 := hid (B0.out.trans (hb.mono B0.out.size))
  clear K0 P0 Q0 B0 hb
  have hb := below_new (o := .cells #[.string lo, .string hi, .int .i64 c, .int .i64 e, .int .i64 n, .bool ex] 149) (w := w1) (Below.refl _ _)
  have K2 := hid (K1.out.below hb)
  have P2 := hid (P1.out.below hb)
  have Q2 := hid (Q1.out.below hb)
  have B2 := hid (B1.out.trans (hb.mono B1.out.size))
  have I2 := hid (Bk.new w1 149 [.string lo, .string hi, .int .i64 c, .int .i64 e, .int .i64 n, .bool ex])
  have y0 := K1.out.cell (j := 0) rfl
  have k0 := K1.out.lt
  clear hb K1 P1 Q1 B1
  go_wp2_with fail
  refine (C2.out _ P2.out).mono ?_
  generalize w1.alloc (.cells #[.string lo, .string hi, .int .i64 c, .int .i64 e, .int .i64 n, .bool ex] 149) = V at *
  generalize w1.heap.size = gc at *
  rintro r w3 ⟨rfl, hb⟩
  have K3 := hid (K2.out.below hb)
  have Q3 := hid (Q2.out.below hb)
  have I3 := hid (I2.out.below hb)
  have B3 := hid (B2.out.trans (hb.mono B2.out.size))
  clear hb K2 P2 Q2 B2 I2 y0
  cases z1 with
  | true =>
    go_wp2
    go_ret
    exact ⟨by rw [HV.out]; rfl, B3.out⟩
  | false =>
    have y1 := K3.out.cell (j := 1) rfl
    have x0 := I3.out.cell (j := 0) rfl
    have x1 := I3.out.cell (j := 1) rfl
    have x2 := I3.out.cell (j := 2) rfl
    have x3 := I3.out.cell (j := 3) rfl
    have x4 := I3.out.cell (j := 4) rfl
    have x5 := I3.out.cell (j := 5) rfl
    go_wp2_with fail
    refine (C3.out _ Q3.out).mono ?_
    rintro r w4 ⟨rfl, hb⟩
    have B4 := hid (B3.out.trans (hb.mono B3.out.size))
    clear hb
    go_wp2
    go_ret
    exact ⟨by rw [HV.out]; rfl, B4.out⟩
set_option maxHeartbeats 8000000 in
theorem waitOk_any (S S' : Nat → Prop) (ha : Option Addr) (hn hc : Nat) (wa : Option Addr) (wn wc : Nat) (hl wl : List LK) (w : World) (h1 : Lr w S (.slice ha hn hc) hl) (h2 : Lr w S' (.slice wa wn wc) wl) :
    Calls Try.prog 91 #[.agg #[.slice ha hn hc, .slice wa wn wc]] w fun r w' => r = .returned (.bool (waitB hl wl)) ∧ Below w.heap.size w w' := by
  have HN := hid (Rw.len h2).1
  have bk := (Rw.len h2).2
  have B0 := hid (below_new (o := .cells #[.slice ha hn hc, .slice wa wn wc] 71) (w := w) (Below.refl _ _))
  have K0 := hid (Bk.new w 71 [.slice ha hn hc, .slice wa wn wc])
  have P0 := hid (h1.below B0.out)
  have Q0 := hid (h2.below B0.out)
  have HV := hid (waitB_def hl wl)
  rw [← HN.out] at HV
  clear h1 h2
  have hnot : ∀ (x : Bool) (w : World), (Op.unary .not (.bool x)).run Try.prog w = .ok (.bool (!x)) w := fun _ _ => rfl
  generalize hU : w.alloc (.cells #[.slice ha hn hc, .slice wa wn wc] 71) = U at *
  have HU := hid hU
  clear hU
  go_enter Try.func91, Try.ntmps91
  go_wp2_with fail
  rw [HU.out]
  go_loopw [9] (fun i v => ∃ j : Nat, j ≤ wn ∧ i = .int .i64 j ∧ Hid (Below U.heap.size U v) ∧ Hid ((List.range j).all (wpk hl wl) = true)) (fun i _ => wn - (intOf i).toNat)
  case atStart => exact ⟨0, Nat.zero_le _, rfl, Below.refl _ _, rfl⟩
  case round =>
    obtain ⟨j, hj, rfl, HB, HT⟩ := hrel
    by_cases hlt : j < wn
    · have hlt' : (j : Int) < (wn : Int) := by omega
      have hml : j < wl.length := by rw [← HN.out]; exact hlt
      have HR := hid (Q0.out.below HB.out)
      obtain ⟨b, off, ha', -, -, hcell⟩ := HR.out.at (by omega)
      obtain ⟨hc0, hc1, hc2, hc3, hc4, hc5⟩ := hcell j hlt
      clear hcell
      subst ha'
      have HNO : Hid (wpk hl wl j = false → (List.range wn).all (wpk hl wl) = false) := rall_no _ hlt
      have HYES : Hid ((List.range (j + 1)).all (wpk hl wl) = ((List.range j).all (wpk hl wl) && wpk hl wl j)) := rall_succ _ _
      have HP := hid (wpk_def hl wl j)
      have HM := hid (mustW_def hl (wl.take j) (lAt wl j))
      have HFR := hid (HR.out.first j (by omega))
      have HPR := hid (P0.out.below HB.out)
      have HKR := hid (K0.out.below HB.out)
      generalize lAt wl j = cur at hc0 hc1 hc2 hc3 hc4 hc5 HP HM
      obtain ⟨⟨cc, ce, cn⟩, ⟨clo, chi⟩, cex⟩ := cur
      rw [← HM.out] at HP
      have B1 : Hid (Below U.heap.size U (wr.alloc (.cells #[.int .i64 cc, .int .i64 ce, .int .i64 cn, .string clo, .string chi, .bool cex] 75))) := HB.out.trans (below_new (Below.refl _ _) |>.mono HB.out.size)
      have hb := below_new (o := .cells #[.int .i64 cc, .int .i64 ce, .int .i64 cn, .string clo, .string chi, .bool cex] 75) (w := wr) (Below.refl _ _)
      have J1 := hid (Bk.new wr 75 [.int .i64 cc, .int .i64 ce, .int .i64 cn, .string clo, .string chi, .bool cex])
      have P1 := hid (HPR.out.below hb)
      have Q1 := hid (HFR.out.below hb)
      have K1 := hid (HKR.out.below hb)
      clear hb
      have C1 := hid (fun w => implLockOk_any cc ce cn clo chi cex w)
      have C2 : Hid (∀ v, Lr v S' (.slice (some ⟨b, off, none⟩) j wc) (wl.take j) → Calls Try.prog 80 #[.slice (some ⟨b, off, none⟩) j wc, .agg #[.int .i64 cc, .int .i64 ce, .int .i64 cn]] v fun r w' => r = .returned (.bool (hasT (wl.take j) (cc, ce, cn))) ∧ Below v.heap.size v w') := fun v hv => isAmong_any cc ce cn S' _ j wc (wl.take j) v hv
      have C3 : Hid (∀ v, Lr v S (.slice ha hn hc) hl → Lr v S' (.slice (some ⟨b, off, none⟩) j wc) (wl.take j) → Calls Try.prog 138 #[.agg #[.slice ha hn hc, .slice (some ⟨b, off, none⟩) j wc], .agg #[.int .i64 cc, .int .i64 ce, .int .i64 cn, .string clo, .string chi, .bool cex]] v fun r w' => r = .returned (.bool (mustW hl (wl.take j) ((cc, ce, cn), (clo, chi), cex))) ∧ Below v.heap.size v w') := fun v h1 h2 => mustWait_any S S' _ _ _ _ _ _ hl (wl.take j) cc ce cn clo chi cex v h1 h2
      generalize lkOk ((cc, ce, cn), (clo, chi), cex) = z1 at *
      generalize hasT (wl.take j) (cc, ce, cn) = z2 at *
      generalize mustW hl (wl.take j) ((cc, ce, cn), (clo, chi), cex) = z3 at *
      have hjk : (j : Int) ≤ (wc : Int) := by omega
      have hk0 : ¬ wc = 0 := by omega
      have hk63 : (wc : Int) ≤ 9223372036854775807 := by omega
      have hj0 : (0 : Int) ≤ (j : Int) := by omega
      clear HR HFR hml HPR HKR HM
      have y0 := K1.out.cell (j := 0) rfl
      have y1 := K1.out.cell (j := 1) rfl
      have k0 := K1.out.lt
      have j0 := J1.out.lt
      generalize hG : wr.heap.size = g at *
      go_wp2_with fail
      generalize wr.alloc (.cells #[.int .i64 cc, .int .i64 ce, .int .i64 cn, .string clo, .string chi, .bool cex] 75) = Y at *
      clear hG hc0 hc1 hc2 hc3 hc4 hc5
      go_cut [5] (fun x v => x = .pointer (some ⟨Y.heap.size, 0, none⟩) ∧ Below Y.heap.size Y v ∧ Bk v Y.heap.size 71 [.slice ha hn hc, .slice (some ⟨b, off, none⟩) j wc])
      case first =>
        first | go_region_with (fail) | fail
        all_goals (go_wp2_with fail; go_meet)
        all_goals exact ⟨by simp, below_new (below_drew _), (Bk.new _ _ _).below (below_drew _)⟩
      case rest =>
        obtain ⟨rfl, hb, hbk⟩ := hcut
        rename_i Z
        generalize Y.heap.size = gt at hbk
        have I2 := hid hbk
        have J2 := hid (J1.out.below hb)
        have P2 := hid (P1.out.below hb)
        have Q2 := hid (Q1.out.below hb)
        have B2 := hid (B1.out.trans (hb.mono B1.out.size))
        clear hb hbk J1 P1 Q1 K1 B1 y0 y1 k0 j0
        cases z1 with
        | false =>
          have x0 := J2.out.cell (j := 0) rfl
          have x1 := J2.out.cell (j := 1) rfl
          have x2 := J2.out.cell (j := 2) rfl
          have x3 := J2.out.cell (j := 3) rfl
          have x4 := J2.out.cell (j := 4) rfl
          have x5 := J2.out.cell (j := 5) rfl
          have y0 := I2.out.cell (j := 0) rfl
          have y1 := I2.out.cell (j := 1) rfl
          go_wp2_with fail
          refine (C1.out _).mono ?_
          rintro r w3 ⟨rfl, hb⟩
          have J3 := hid (J2.out.below hb)
          have I3 := hid (I2.out.below hb)
          have P3 := hid (P2.out.below hb)
          have Q3 := hid (Q2.out.below hb)
          have B3 := hid (B2.out.trans (hb.mono B2.out.size))
          clear J2 I2 P2 Q2 B2 hb x0 x1 x2 x3 x4 x5 y0 y1
          have HZ := hid (HNO.out (by rw [HP.out]; rfl))
          go_wp2
          go_ret
          exact ⟨by rw [HV.out, HZ.out]; rfl, B0.out.trans (B3.out.mono B0.out.size)⟩
        | true =>
          have x0 := J2.out.cell (j := 0) rfl
          have x1 := J2.out.cell (j := 1) rfl
          have x2 := J2.out.cell (j := 2) rfl
          have x3 := J2.out.cell (j := 3) rfl
          have x4 := J2.out.cell (j := 4) rfl
          have x5 := J2.out.cell (j := 5) rfl
          have y0 := I2.out.cell (j := 0) rfl
          have y1 := I2.out.cell (j := 1) rfl
          go_wp2_with fail
          refine (C1.out _).mono ?_
          rintro r w3 ⟨rfl, hb⟩
          have J3 := hid (J2.out.below hb)
          have I3 := hid (I2.out.below hb)
          have P3 := hid (P2.out.below hb)
          have Q3 := hid (Q2.out.below hb)
          have B3 := hid (B2.out.trans (hb.mono B2.out.size))
          clear J2 I2 P2 Q2 B2 hb x0 x1 x2 x3 x4 x5 y0 y1
          have x0 := J3.out.cell (j := 0) rfl
          have x1 := J3.out.cell (j := 1) rfl
          have x2 := J3.out.cell (j := 2) rfl
          have x3 := J3.out.cell (j := 3) rfl
          have x4 := J3.out.cell (j := 4) rfl
          have x5 := J3.out.cell (j := 5) rfl
          have y0 := I3.out.cell (j := 0) rfl
          have y1 := I3.out.cell (j := 1) rfl
          go_wp2_with fail
          refine (C2.out _ Q3.out).mono ?_
          rintro r w4 ⟨rfl, hb⟩
          have J4 := hid (J3.out.below hb)
          have I4 := hid (I3.out.below hb)
          have P4 := hid (P3.out.below hb)
          have Q4 := hid (Q3.out.below hb)
          have B4 := hid (B3.out.trans (hb.mono B3.out.size))
          clear J3 I3 P3 Q3 B3 hb x0 x1 x2 x3 x4 x5 y0 y1
          cases z2 with
          | true =>
            have HZ := hid (HNO.out (by rw [HP.out]; rfl))
            go_wp2
            go_ret
            exact ⟨by rw [HV.out, HZ.out]; rfl, B0.out.trans (B4.out.mono B0.out.size)⟩
          | false =>
            have x0 := J4.out.cell (j := 0) rfl
            have x1 := J4.out.cell (j := 1) rfl
            have x2 := J4.out.cell (j := 2) rfl
            have x3 := J4.out.cell (j := 3) rfl
            have x4 := J4.out.cell (j := 4) rfl
            have x5 := J4.out.cell (j := 5) rfl
            have y0 := I4.out.cell (j := 0) rfl
            have y1 := I4.out.cell (j := 1) rfl
            go_wp2_with fail
            refine (C3.out _ P4.out Q4.out).mono ?_
            rintro r w5 ⟨rfl, hb⟩
            have J5 := hid (J4.out.below hb)
            have I5 := hid (I4.out.below hb)
            have P5 := hid (P4.out.below hb)
            have Q5 := hid (Q4.out.below hb)
            have B5 := hid (B4.out.trans (hb.mono B4.out.size))
            clear J4 I4 P4 Q4 B4 hb x0 x1 x2 x3 x4 x5 y0 y1
            cases z3 with
            | false =>
              have HZ := hid (HNO.out (by rw [HP.out]; rfl))
              go_wp2
              go_ret
              exact ⟨by rw [HV.out, HZ.out]; rfl, B0.out.trans (B5.out.mono B0.out.size)⟩
            | true =>
              have HY : Hid ((List.range (j + 1)).all (wpk hl wl) = true) := by
                show _ = true
                rw [HYES.out, HT.out, HP.out]; rfl
              go_wp2
              go_roundw
              case rel => exact ⟨j + 1, by omega, by go_num, B5.out, HY.out⟩
              case measure => simp [intOf]; omega
    · have HA : Hid (waitB hl wl = true) := by
        show _ = true
        rw [HV.out]
        rw [show wn = j by omega]
        exact HT.out
      go_wp2
      go_ret
      exact ⟨by rw [HA.out]; rfl, B0.out.trans (HB.out.mono B0.out.size)⟩
end Go.Proofs.Ytcpdedpgjaimkaa
/-
  LocksOk of the program.
-/
namespace Go.Proofs.Ytcpdedpgjaimkaa
open Go.RowKit
set_option linter.unusedVariables false
set_option maxHeartbeats 800000 in
theorem lockCount_any (ha : Option Addr) (hn hc : Nat) (wa : Option Addr) (wn wc : Nat) (w : World) (hh : hn ≤ 1048577) (hw : wn ≤ 1048577) :
    Calls Try.prog 81 #[.agg #[.slice ha hn hc, .slice wa wn wc]] w fun r w' => r = .returned (.int .i64 ((hn + wn : Nat) : Int)) ∧ Below w.heap.size w w' := by
  have B0 := hid (below_new (o := .cells #[.slice ha hn hc, .slice wa wn wc] 71) (w := w) (Below.refl _ _))
  go_enter Try.func81, Try.ntmps81
  go_wp2
  go_ret
  exact ⟨by go_num, B0.out⟩
set_option maxHeartbeats 4000000 in
theorem implLocksOk_any (S S' : Nat → Prop) (ha : Option Addr) (hn hc : Nat) (wa : Option Addr) (wn wc : Nat) (hl wl : List LK) (w : World) (h1 : Lr w S (.slice ha hn hc) hl) (h2 : Lr w S' (.slice wa wn wc) wl) (hh : hn ≤ 1048577) (hw : wn ≤ 1048577) :
    Calls Try.prog 31 #[.agg #[.slice ha hn hc, .slice wa wn wc]] w fun r w' => r = .returned (.bool (lksOk hl wl)) ∧ Below w.heap.size w w' := by
  have HNH := hid (Rw.len h1).1
  have HNW := hid (Rw.len h2).1
  have B0 := hid (below_new (o := .cells #[.slice ha hn hc, .slice wa wn wc] 71) (w := w) (Below.refl _ _))
  have K0 := hid (Bk.new w 71 [.slice ha hn hc, .slice wa wn wc])
  have P0 := hid (h1.below B0.out)
  have Q0 := hid (h2.below B0.out)
  have HV := hid (lksOk_def hl wl)
  rw [← HNH.out, ← HNW.out] at HV
  clear h1 h2
  have C1 := hid (fun w => lockCount_any ha hn hc wa wn wc w hh hw)
  have C2 := hid (fun v hv => heldOk_any S ha hn hc hl v hv)
  have C3 := hid (fun v h1 h2 => waitOk_any S S' ha hn hc wa wn wc hl wl v h1 h2)
  generalize heldB hl = z1 at *
  generalize waitB hl wl = z2 at *
  by_cases h60 : hn + wn ≤ 60
  · rw [decide_eq_true h60] at HV
    have h60' : ((hn + wn : Nat) : Int) ≤ 60 := by omega
    generalize hn + wn = sm at *
    cases z1 with
    | false =>
      go_enter Try.func31, Try.ntmps31
      go_wp2_with fail
      refine (C1.out _).mono ?_
      generalize w.alloc (.cells #[.slice ha hn hc, .slice wa wn wc] 71) = U at *
      rintro r w1 ⟨rfl, hb⟩
      have K1 := hid (K0.out.below hb)
      have P1 := hid (P0.out.below hb)
      have Q1 := hid (Q0.out.below hb)
      have B1 := hid (B0.out.trans (hb.mono B0.out.size))
      clear K0 P0 Q0 B0 hb
      have y0 := K1.out.cell (j := 0) rfl
      have y1 := K1.out.cell (j := 1) rfl
      go_wp2_with fail
      refine (C2.out _ P1.out).mono ?_
      rintro r w2 ⟨rfl, hb⟩
      have K2 := hid (K1.out.below hb)
      have P2 := hid (P1.out.below hb)
      have Q2 := hid (Q1.out.below hb)
      have B2 := hid (B1.out.trans (hb.mono B1.out.size))
      clear K1 P1 Q1 B1 hb y0 y1
      go_wp2
      go_ret
      exact ⟨by rw [HV.out]; rfl, B2.out⟩
    | true =>
      go_enter Try.func31, Try.ntmps31
      go_wp2_with fail
      refine (C1.out _).mono ?_
      generalize w.alloc (.cells #[.slice ha hn hc, .slice wa wn wc] 71) = U at *
      rintro r w1 ⟨rfl, hb⟩
      have K1 := hid (K0.out.below hb)
      have P1 := hid (P0.out.below hb)
      have Q1 := hid (Q0.out.below hb)
      have B1 := hid (B0.out.trans (hb.mono B0.out.size))
      clear K0 P0 Q0 B0 hb
      have y0 := K1.out.cell (j := 0) rfl
      have y1 := K1.out.cell (j := 1) rfl
      go_wp2_with fail
      refine (C2.out _ P1.out).mono ?_
      rintro r w2 ⟨rfl, hb⟩
      have K2 := hid (K1.out.below hb)
      have P2 := hid (P1.out.below hb)
      have Q2 := hid (Q1.out.below hb)
      have B2 := hid (B1.out.trans (hb.mono B1.out.size))
      clear K1 P1 Q1 B1 hb y0 y1
      have y0 := K2.out.cell (j := 0) rfl
      have y1 := K2.out.cell (j := 1) rfl
      go_wp2_with fail
      refine (C3.out _ P2.out Q2.out).mono ?_
      rintro r w3 ⟨rfl, hb⟩
      have K3 := hid (K2.out.below hb)
      have P3 := hid (P2.out.below hb)
      have Q3 := hid (Q2.out.below hb)
      have B3 := hid (B2.out.trans (hb.mono B2.out.size))
      clear K2 P2 Q2 B2 hb y0 y1
      go_wp2
      go_ret
      exact ⟨by rw [HV.out]; rfl, B3.out⟩
  · rw [decide_eq_false h60] at HV
    have h60' : ¬ ((hn + wn : Nat) : Int) ≤ 60 := by omega
    generalize hn + wn = sm at *
    go_enter Try.func31, Try.ntmps31
    go_wp2_with fail
    refine (C1.out _).mono ?_
    generalize w.alloc (.cells #[.slice ha hn hc, .slice wa wn wc] 71) = U at *
    rintro r w1 ⟨rfl, hb⟩
    have K1 := hid (K0.out.below hb)
    have P1 := hid (P0.out.below hb)
    have Q1 := hid (Q0.out.below hb)
    have B1 := hid (B0.out.trans (hb.mono B0.out.size))
    clear K0 P0 Q0 B0 hb
    go_wp2
    go_ret
    exact ⟨by rw [HV.out]; rfl, B1.out⟩
end Go.Proofs.Ytcpdedpgjaimkaa
/-
  Rows that are appended to, of any element; of strings and of numbers.
-/
namespace Go.Proofs.Ytcpdedpgjaimkaa
open Go.RowKit
theorem info_of {P : Program} {e : TypeId} {z : Value} {size bytes : Nat} (h : (P.info? e).map (fun i => (i.zero, i.size, i.bytes)) = some (some z, size, bytes)) : ∃ i, P.info? e = some i ∧ i.zero = some z ∧ i.size = size ∧ i.bytes = bytes := by
  obtain ⟨i, hi, hz⟩ := Option.map_eq_some_iff.1 h
  simp only [Prod.mk.injEq] at hz
  exact ⟨i, hi, hz⟩
/-- append(dst, src...), and where the new row lies. -/
theorem run_append_row_at {P : Program} {w : World} (base : Nat) (t ty e : TypeId) (i : TypeInfo) (z : Value) (size bytes : Nat) (ht : P.underlying t = some (.slice e)) (hi : P.info? e = some i) (hz : i.zero = some z)
    (hsize : i.size = size) (hby : i.bytes = bytes) (hzs : z.cells.size = size) (hsz : 0 < size) (v : Value) (n : Nat) (xs : List Value) (hown : w.ownsRow base e size v n xs)
    (S : Nat → Prop) (src : Value) (m : Nat) (news : List Value) (hsrc : Rw w S src m news) (hl : news.length = m * size) (h1 : ∀ u ∈ news, u.oneCell' = true)
    (h63 : n + m ≤ maxLen) (hbytes : (n + m) * bytes ≤ 140737488355328) (hbase : base ≤ w.heap.size) :
    ∃ v' w', (Builtin.append_ #[t, t] ty #[v, src]).run P w = .ok v' w' ∧ w'.ownsRow base e size v' (n + m) (xs ++ news) ∧ w.grownBy w' v.ownBlock ∧ (v'.ownBlock = v.ownBlock ∨ v'.ownBlock = some w.heap.size) := by
  obtain ⟨a, c, rfl, h2, h3, h4, hn, h5⟩ := hsrc
  by_cases hm : 0 < m
  · obtain ⟨b, off, rfl, hb, hS, hc⟩ := h5 hm
    obtain ⟨v', w', hr, ho, hg, _, ha⟩ := run_append_own_at w base t ty e i z size bytes ht hi hz hsize hby hzs hsz v n xs hown ⟨b, off, none⟩ m c news hl (fun j u hu => by rw [Addr.add_lit]; exact hc j u hu) h1 h63 hbytes hbase
    exact ⟨v', w', hr, ho, hg, ha⟩
  · obtain rfl : m = 0 := by omega
    obtain rfl := h4 rfl
    cases a with
    | some ad =>
      obtain ⟨v', w', hr, ho, hg, _, ha⟩ := run_append_own_at w base t ty e i z size bytes ht hi hz hsize hby hzs hsz v n xs hown ad 0 c [] hl (fun j u hu => by simp at hu) h1 h63 hbytes hbase
      exact ⟨v', w', hr, ho, hg, ha⟩
    | none =>
      obtain rfl := hn rfl
      have hrun := run_append_owned_none (P := P) (w := w) base t ty e i size ht hi v n xs hown
      exact ⟨v, w, hrun, by simpa using hown, ⟨rfl, rfl, rfl, Nat.le_refl _, fun _ _ _ => rfl⟩, .inl rfl⟩
theorem wpList_append_row_at {P : Program} {w : World} {ops : Array Oper} {rest : List Oper} {o : Oper} {a : Act} {Q : Exit → Act → World → Prop} (hgd : o.guard = none) (s x : Operand) (t : TypeId)
    (ho : o.op = .call { callee := .builtin .append, args := #[s, x], argTypes := #[t, t] })
    (base : Nat) (e : TypeId) (i : TypeInfo) (z : Value) (size bytes : Nat) (ht : P.underlying t = some (.slice e)) (hi : P.info? e = some i) (hz : i.zero = some z)
    (hsize : i.size = size) (hby : i.bytes = bytes) (hzs : z.cells.size = size) (hsz : 0 < size) (v : Value) (n : Nat) (xs : List Value) (hs : a.eval s = v) (hown : w.ownsRow base e size v n xs)
    (S : Nat → Prop) (src : Value) (m : Nat) (news : List Value) (hx : a.eval x = src) (hsrc : Rw w S src m news) (hl : news.length = m * size) (h1 : ∀ u ∈ news, u.oneCell' = true)
    (h63 : n + m ≤ maxLen) (hbytes : (n + m) * bytes ≤ 140737488355328) (hbase : base ≤ w.heap.size)
    (h : ∀ v' w', w'.ownsRow base e size v' (n + m) (xs ++ news) → w.grownBy w' v.ownBlock → (v'.ownBlock = v.ownBlock ∨ v'.ownBlock = some w.heap.size) → wpList P ops Q rest (a.put o.dst v') w') : wpList P ops Q (o :: rest) a w := by
  refine wpList_plain hgd fun K hK => ?_
  obtain ⟨v', w', hr, h2, h3, h4⟩ := run_append_row_at (P := P) (w := w) base t o.type e i z size bytes ht hi hz hsize hby hzs hsz v n xs hown S src m news hsrc hl h1 h63 hbytes hbase
  unfold Oper.wp execOp
  simp only [ho, resolve, invoke, builtin, Sem.run_bind, Sem.run_pure, Result.andThen_ok, List.map_toArray, List.map_cons, List.map_nil, hs, hx, hr]
  exact hK _ _ (h v' w' h2 h3 h4)
theorem infoStr' : (Try.prog.info? 9).map (fun i => (i.zero, i.size, i.bytes)) = some (some (.string ⟨#[]⟩), 1, 16) := by kernel_rfl
theorem wpList_append_st1 {w : World} {ops : Array Oper} {rest : List Oper} {o : Oper} {a : Act} {Q : Exit → Act → World → Prop} (hgd : o.guard = none) (s x : Operand)
    (ho : o.op = .call { callee := .builtin .append, args := #[s, x], argTypes := #[155, 155] }) (v : Value) (n : Nat) (xs : List Value) (hs : a.eval s = v) (hown : w.ownsRow 0 9 1 v n xs)
    (g : Nat) (z : ByteArray) (hx : a.eval x = .slice (some ⟨g, 0, none⟩) 1 1) (hB : Bk w g 9 [.string z]) (hb : n ≤ 1048576)
    (h : ∀ a' n' c' w', w'.ownsRow 0 9 1 (.slice a' n' c') (n + 1) (xs ++ [.string z]) → w.grownBy w' v.ownBlock → ((Value.slice a' n' c').ownBlock = v.ownBlock ∨ (Value.slice a' n' c').ownBlock = some w.heap.size) → wpList Try.prog ops Q rest (a.put o.dst (.slice a' n' c')) w') : wpList Try.prog ops Q (o :: rest) a w := by
  obtain ⟨i, hi, hz, hsz, hby⟩ := info_of infoStr'
  refine wpList_append_row_at hgd s x 155 ho 0 9 i _ 1 16 Try.underlying155 hi hz hsz hby rfl (by decide) v n xs hs hown (fun _ => True) _ 1 [.string z] hx (hB.rw (Nat.le_refl _) (by omega) (fun h => by omega) _ trivial) rfl
    (by intro u hu; simp at hu; subst hu; rfl) (by unfold maxLen; omega) (by omega) (Nat.zero_le _) ?_
  intro v' w' k1 k2 k3
  obtain ⟨a', c', rfl⟩ := own_shape k1
  exact h a' _ c' w' k1 k2 k3
theorem infoInt' : (Try.prog.info? 3).map (fun i => (i.zero, i.size, i.bytes)) = some (some (.int .i64 0), 1, 8) := by kernel_rfl
theorem wpList_append_in1 {w : World} {ops : Array Oper} {rest : List Oper} {o : Oper} {a : Act} {Q : Exit → Act → World → Prop} (hgd : o.guard = none) (s x : Operand)
    (ho : o.op = .call { callee := .builtin .append, args := #[s, x], argTypes := #[156, 156] }) (v : Value) (n : Nat) (xs : List Value) (hs : a.eval s = v) (hown : w.ownsRow 0 3 1 v n xs)
    (g : Nat) (z : Int) (hx : a.eval x = .slice (some ⟨g, 0, none⟩) 1 1) (hB : Bk w g 3 [.int .i64 z]) (hb : n ≤ 1048576)
    (h : ∀ a' n' c' w', w'.ownsRow 0 3 1 (.slice a' n' c') (n + 1) (xs ++ [.int .i64 z]) → w.grownBy w' v.ownBlock → ((Value.slice a' n' c').ownBlock = v.ownBlock ∨ (Value.slice a' n' c').ownBlock = some w.heap.size) → wpList Try.prog ops Q rest (a.put o.dst (.slice a' n' c')) w') : wpList Try.prog ops Q (o :: rest) a w := by
  obtain ⟨i, hi, hz, hsz, hby⟩ := info_of infoInt'
  refine wpList_append_row_at hgd s x 156 ho 0 3 i _ 1 8 Try.underlying156 hi hz hsz hby rfl (by decide) v n xs hs hown (fun _ => True) _ 1 [.int .i64 z] hx (hB.rw (Nat.le_refl _) (by omega) (fun h => by omega) _ trivial) rfl
    (by intro u hu; simp at hu; subst hu; rfl) (by unfold maxLen; omega) (by omega) (Nat.zero_le _) ?_
  intro v' w' k1 k2 k3
  obtain ⟨a', c', rfl⟩ := own_shape k1
  exact h a' _ c' w' k1 k2 k3
end Go.Proofs.Ytcpdedpgjaimkaa
/-
  Tables of locks of one's own: a lock is put behind a row; withLock of the program.
-/
namespace Go.Proofs.Ytcpdedpgjaimkaa
open Go.RowKit
set_option linter.unusedVariables false
theorem lkq_one (l : List LK) : ∀ u ∈ lcs l, u.oneCell' = true := lcs_one l
theorem wpList_append_lk {w : World} {ops : Array Oper} {rest : List Oper} {o : Oper} {a : Act} {Q : Exit → Act → World → Prop} (hgd : o.guard = none) (s x : Operand)
    (ho : o.op = .call { callee := .builtin .append, args := #[s, x], argTypes := #[69, 69] }) (B : Nat) (v : Value) (l : List LK) (hs : a.eval s = v) (hown : LW w B v l)
    (g : Nat) (y : LK) (hx : a.eval x = .slice (some ⟨g, 0, none⟩) 1 1) (hB : Bk w g 75 (lcs [y])) (hb : l.length ≤ 1048576) (hbase : B ≤ w.heap.size)
    (h : ∀ a' n' c' w', LW w' B (.slice a' n' c') (l ++ [y]) → w.grownBy w' v.ownBlock → ((Value.slice a' n' c').ownBlock = v.ownBlock ∨ (Value.slice a' n' c').ownBlock = some w.heap.size) → wpList Try.prog ops Q rest (a.put o.dst (.slice a' n' c')) w') : wpList Try.prog ops Q (o :: rest) a w := by
  obtain ⟨i, hi, hz, hsz, hby⟩ := info_of infoLockI
  refine wpList_append_row_at hgd s x 69 ho B 75 i _ 6 64 Try.underlying69 hi hz hsz hby rfl (by decide) v l.length (lcs l) hs hown (fun _ => True) _ 1 (lcs [y]) hx (hB.rw (Nat.le_refl _) (by omega) (fun h => by omega) _ trivial) rfl
    (lcs_one _) (by unfold maxLen; omega) (by omega) hbase ?_
  intro v' w' k1 k2 k3
  obtain ⟨a', c', rfl⟩ := own_shape k1
  refine h a' _ c' w' ?_ k2 k3
  show World.ownsRow _ _ _ _ _ _ _
  rw [lcs_append, List.length_append]
  exact k1
theorem LO.pushW {u w2 : World} {B : Nat} {h v v' : Value} {hl wl wl' : List LK} (H : LO u B h v hl wl) (ho : LW w2 B v' wl') (hg : u.grownBy w2 v.ownBlock) (ha : v'.ownBlock = v.ownBlock ∨ v'.ownBlock = some u.heap.size) : LO w2 B h v' hl wl' := by
  have o : Only (fun y => v.ownBlock = some y) u w2 := only_of_grown hg (fun k e => e)
  refine ⟨H.hh.to o (fun y e e2 => H.apart y e e2), ho, fun y e e2 => ?_⟩
  rcases ha with h1 | h1
  · rw [h1] at e2; exact H.apart y e e2
  · rw [h1] at e2
    have := (H.hh.lt e).2
    cases e2
    omega
theorem LO.pushH {u w2 : World} {B : Nat} {h h' v : Value} {hl wl hl' : List LK} (H : LO u B h v hl wl) (ho : LW w2 B h' hl') (hg : u.grownBy w2 h.ownBlock) (ha : h'.ownBlock = h.ownBlock ∨ h'.ownBlock = some u.heap.size) : LO w2 B h' v hl' wl := by
  have o : Only (fun y => h.ownBlock = some y) u w2 := only_of_grown hg (fun k e => e)
  refine ⟨ho, H.hw.to o (fun y e e2 => H.apart y e2 e), fun y e e2 => ?_⟩
  rcases ha with h1 | h1
  · rw [h1] at e; exact H.apart y e e2
  · rw [h1] at e
    have := (H.hw.lt e2).2
    cases e
    omega
theorem putL_yes {h l : List LK} {x : LK} (e : mustW h l x = true) : putL h l x = (h, l ++ [x]) := by rw [putL, e]; rfl
theorem putL_no {h l : List LK} {x : LK} (e : mustW h l x = false) : putL h l x = (h ++ [x], l) := by rw [putL, e]; rfl
/-- What withLock leaves. -/
def WlPost (w : World) (B : Nat) (h v : Value) (hl wl : List LK) (x : LK) (e : Ending) (w' : World) : Prop :=
  ∃ a n c a' n' c', e = .returned (.tuple #[.agg #[.slice a n c, .slice a' n' c'], .bool (!mustW hl wl x)]) ∧ LO w' B (.slice a n c) (.slice a' n' c') (putL hl wl x).1 (putL hl wl x).2 ∧ Only (lbl h v) w w' ∧ (∀ y, lbl (.slice a n c) (.slice a' n' c') y → lbl h v y ∨ w.heap.size ≤ y)
set_option maxHeartbeats 8000000 in
theorem withLock_any (B : Nat) (ha : Option Addr) (hn hc : Nat) (wa : Option Addr) (wn wc : Nat) (hl wl : List LK) (c e n : Int) (lo hi : ByteArray) (ex : Bool) (w : World) (h : LO w B (.slice ha hn hc) (.slice wa wn wc) hl wl) (hB : B ≤ w.heap.size) (hsz0 : hl.length ≤ 1048576) (hsz1 : wl.length ≤ 1048576) :
    Calls Try.prog 82 #[.agg #[.slice ha hn hc, .slice wa wn wc], .agg #[.int .i64 c, .int .i64 e, .int .i64 n, .string lo, .string hi, .bool ex]] w fun r w' => WlPost w B (.slice ha hn hc) (.slice wa wn wc) hl wl ((c, e, n), (lo, hi), ex) r w' := by
  have HB0 := hid hB
  have B0 : Hid (Below w.heap.size w (((w.alloc (.cells #[.slice ha hn hc, .slice wa wn wc] 71)).alloc (.cells #[.int .i64 c, .int .i64 e, .int .i64 n, .string lo, .string hi, .bool ex] 75)).alloc (.cells #[.slice none 0 0, .slice none 0 0] 71))) := below_new (below_new (below_new (Below.refl _ _)))
  have K0 := hid (((Bk.new w 71 [.slice ha hn hc, .slice wa wn wc]).alloc (.cells #[.int .i64 c, .int .i64 e, .int .i64 n, .string lo, .string hi, .bool ex] 75)).alloc (.cells #[.slice none 0 0, .slice none 0 0] 71))
  have J0 := hid ((Bk.new (w.alloc (.cells #[.slice ha hn hc, .slice wa wn wc] 71)) 75 [.int .i64 c, .int .i64 e, .int .i64 n, .string lo, .string hi, .bool ex]).alloc (.cells #[.slice none 0 0, .slice none 0 0] 71))
  have I0 := hid (Bk.new ((w.alloc (.cells #[.slice ha hn hc, .slice wa wn wc] 71)).alloc (.cells #[.int .i64 c, .int .i64 e, .int .i64 n, .string lo, .string hi, .bool ex] 75)) 71 [.slice none 0 0, .slice none 0 0])
  rw [show (w.alloc (.cells #[.slice ha hn hc, .slice wa wn wc] 71)).heap.size = w.heap.size + 1 by simp] at J0
  rw [show ((w.alloc (.cells #[.slice ha hn hc, .slice wa wn wc] 71)).alloc (.cells #[.int .i64 c, .int .i64 e, .int .i64 n, .string lo, .string hi, .bool ex] 75)).heap.size = w.heap.size + 1 + 1 by simp] at I0
  have H0 := hid h
  have HLT : Hid (∀ y, lbl (.slice ha hn hc) (.slice wa wn wc) y → y < w.heap.size) := fun y hy => (h.lt hy).2
  have C1 := hid (fun v h1 h2 => mustWait_any (fun _ => True) (fun _ => True) ha hn hc wa wn wc hl wl c e n lo hi ex v h1 h2)
  clear h hB
  have HM0 : Hid (∀ z, mustW hl wl ((c, e, n), (lo, hi), ex) = z → mustW hl wl ((c, e, n), (lo, hi), ex) = z) := fun _ h => h
  generalize hz : mustW hl wl ((c, e, n), (lo, hi), ex) = z at C1
  have HM := hid hz
  clear hz HM0
  unfold WlPost
  go_enter Try.func82, Try.ntmps82
  go_wp2_with fail
  refine (C1.out _ (H0.out.hh.lr.below B0.out) (H0.out.hw.lr.below B0.out)).mono ?_
  generalize ((w.alloc (.cells #[.slice ha hn hc, .slice wa wn wc] 71)).alloc (.cells #[.int .i64 c, .int .i64 e, .int .i64 n, .string lo, .string hi, .bool ex] 75)).alloc (.cells #[.slice none 0 0, .slice none 0 0] 71) = U at *
  rintro r w1 ⟨rfl, hb⟩
  have B1 := hid (B0.out.trans (hb.mono B0.out.size))
  have O1 := hid (H0.out.below B1.out)
  have K1 := hid (K0.out.below hb)
  have J1 := hid (J0.out.below hb)
  have I1 := hid (I0.out.below hb)
  have HS1 : Hid (w.heap.size + 1 + 1 < w1.heap.size) := I1.out.lt
  clear hb B0 K0 J0 I0 H0 C1
  cases z with
  | true =>
    have HPL := hid (putL_yes HM.out)
    have x0 := J1.out.cell (j := 0) rfl
    have x1 := J1.out.cell (j := 1) rfl
    have x2 := J1.out.cell (j := 2) rfl
    have x3 := J1.out.cell (j := 3) rfl
    have x4 := J1.out.cell (j := 4) rfl
    have x5 := J1.out.cell (j := 5) rfl
    have y1 := K1.out.cell (j := 1) rfl
    have HN : Hid (Bk (w1.alloc (.cells #[.int .i64 c, .int .i64 e, .int .i64 n, .string lo, .string hi, .bool ex] 75)) w1.heap.size 75 (lcs [((c, e, n), (lo, hi), ex)])) := Bk.new w1 75 [.int .i64 c, .int .i64 e, .int .i64 n, .string lo, .string hi, .bool ex]
    have hb := below_new (o := .cells #[.int .i64 c, .int .i64 e, .int .i64 n, .string lo, .string hi, .bool ex] 75) (w := w1) (Below.refl _ _)
    have O2 := hid (O1.out.below hb)
    have K2 := hid (K1.out.below hb)
    have I2 := hid (I1.out.below hb)
    have B2 := hid (B1.out.trans (hb.mono B1.out.size))
    have Z2 : Hid (B ≤ (w1.alloc (.cells #[.int .i64 c, .int .i64 e, .int .i64 n, .string lo, .string hi, .bool ex] 75)).heap.size) := Nat.le_trans HB0.out B2.out.size
    clear hb O1 B1
    go_wp2_with (at_builtin; refine wpList_append_lk rfl _ _ rfl B _ wl rfl O2.out.hw w1.heap.size ((c, e, n), (lo, hi), ex) rfl HN.out hsz1 Z2.out ?_)
    intro a' n' c' w4 hO4 hg4 ha4
    have P4 := hid (O2.out.pushW hO4 hg4 (by simpa using ha4))
    have o4 : Only (fun y => (Value.slice wa wn wc).ownBlock = some y) (w1.alloc (.cells #[.int .i64 c, .int .i64 e, .int .i64 n, .string lo, .string hi, .bool ex] 75)) w4 := only_of_grown hg4 (fun k e => e)
    have HOL : Hid (∀ y, (Value.slice wa wn wc).ownBlock = some y → y < w.heap.size) := fun y e => HLT.out y (.inr e)
    have K4 := hid (K2.out.to o4 (fun e => by have := HOL.out _ e; omega))
    have I4 := hid (I2.out.to o4 (fun e => by have := HOL.out _ e; omega))
    have L4 : Hid (Only (lbl (.slice ha hn hc) (.slice wa wn wc)) w w4) := (only_of_below B2.out _).then o4 (fun i _ e => .inr e)
    have N4 : Hid (∀ y, lbl (.slice ha hn hc) (.slice a' n' c') y → lbl (.slice ha hn hc) (.slice wa wn wc) y ∨ w1.heap.size ≤ y) := by
      intro y hy
      have key : (Value.slice a' n' c').ownBlock = some y → lbl (.slice ha hn hc) (.slice wa wn wc) y ∨ w1.heap.size ≤ y := by
        intro q
        rcases ha4 with h1 | h1
        · rw [h1] at q; exact .inl (.inr q)
        · rw [h1] at q
          have e3 : w1.heap.size + 1 = y := Option.some.inj q
          exact .inr (by omega)
      rcases hy with e | e
      · exact .inl (.inl e)
      · exact key e
    clear hO4 hg4 ha4 o4 K1 I1 J1 K2 I2 O2 B2 x0 x1 x2 x3 x4 x5 y1
    have y0 := K4.out.cell (j := 0) rfl
    have y1 := K4.out.cell (j := 1) rfl
    have f1 := K4.out.free 1
    have z0 := I4.out.cell (j := 0) rfl
    have z1 := I4.out.cell (j := 1) rfl
    have e0 := I4.out.free 0
    have e1 := I4.out.free 1
    have d2 : ¬ w.heap.size = w.heap.size + 1 + 1 := by omega
    have d3 : ¬ w.heap.size + 1 + 1 = w.heap.size := by omega
    have HF : Hid (∀ W, Only (fun y => y = w.heap.size ∨ y = w.heap.size + 1 + 1) w4 W → LO W B (.slice ha hn hc) (.slice a' n' c') (putL hl wl ((c, e, n), (lo, hi), ex)).1 (putL hl wl ((c, e, n), (lo, hi), ex)).2 ∧ Only (lbl (.slice ha hn hc) (.slice wa wn wc)) w W) := fun W hW => by
      rw [HPL.out]
      refine ⟨P4.out.to hW (fun y hy e => ?_), L4.out.then hW (fun i hi e => by omega)⟩
      have hs1 := HS1.out
      rcases N4.out y hy with h1 | h1
      · have := HLT.out y h1; omega
      · omega
    have N5 : Hid (∀ y, lbl (.slice ha hn hc) (.slice a' n' c') y → lbl (.slice ha hn hc) (.slice wa wn wc) y ∨ w.heap.size ≤ y) := fun y hy => by
      have hs1 := HS1.out
      rcases N4.out y hy with h1 | h1
      · exact .inl h1
      · exact .inr (by omega)
    clear P4 L4 N4 HOL
    go_wp2
    try simp only [Exit.inBlock, Exit.then]
    refine bodyPost_ret (v := .tuple #[.agg #[.slice ha hn hc, .slice a' n' c'], .bool false]) ?_ rfl ?_
    · exact results_locks2 rfl _ _ (w.heap.size + 1 + 1) rfl rfl (by go_simp) (by go_simp)
    · refine ⟨ha, hn, hc, a', n', c', by rw [HM.out]; rfl, (HF.out _ ?_).1, (HF.out _ ?_).2, N5.out⟩
      · exact ((only_set (R := fun y => y = w.heap.size ∨ y = w.heap.size + 1 + 1) (p := ⟨w.heap.size, 1, none⟩) (.inl rfl) _).trans (only_set (R := fun y => y = w.heap.size ∨ y = w.heap.size + 1 + 1) (p := ⟨w.heap.size + 1 + 1, 0, none⟩) (.inr rfl) _)).trans (only_set (R := fun y => y = w.heap.size ∨ y = w.heap.size + 1 + 1) (p := ⟨w.heap.size + 1 + 1, 1, none⟩) (.inr rfl) _)
      · exact ((only_set (R := fun y => y = w.heap.size ∨ y = w.heap.size + 1 + 1) (p := ⟨w.heap.size, 1, none⟩) (.inl rfl) _).trans (only_set (R := fun y => y = w.heap.size ∨ y = w.heap.size + 1 + 1) (p := ⟨w.heap.size + 1 + 1, 0, none⟩) (.inr rfl) _)).trans (only_set (R := fun y => y = w.heap.size ∨ y = w.heap.size + 1 + 1) (p := ⟨w.heap.size + 1 + 1, 1, none⟩) (.inr rfl) _)
  | false =>
    have HPL := hid (putL_no HM.out)
    have x0 := J1.out.cell (j := 0) rfl
    have x1 := J1.out.cell (j := 1) rfl
    have x2 := J1.out.cell (j := 2) rfl
    have x3 := J1.out.cell (j := 3) rfl
    have x4 := J1.out.cell (j := 4) rfl
    have x5 := J1.out.cell (j := 5) rfl
    have y0 := K1.out.cell (j := 0) rfl
    have HN : Hid (Bk (w1.alloc (.cells #[.int .i64 c, .int .i64 e, .int .i64 n, .string lo, .string hi, .bool ex] 75)) w1.heap.size 75 (lcs [((c, e, n), (lo, hi), ex)])) := Bk.new w1 75 [.int .i64 c, .int .i64 e, .int .i64 n, .string lo, .string hi, .bool ex]
    have hb := below_new (o := .cells #[.int .i64 c, .int .i64 e, .int .i64 n, .string lo, .string hi, .bool ex] 75) (w := w1) (Below.refl _ _)
    have O2 := hid (O1.out.below hb)
    have K2 := hid (K1.out.below hb)
    have I2 := hid (I1.out.below hb)
    have B2 := hid (B1.out.trans (hb.mono B1.out.size))
    have Z2 : Hid (B ≤ (w1.alloc (.cells #[.int .i64 c, .int .i64 e, .int .i64 n, .string lo, .string hi, .bool ex] 75)).heap.size) := Nat.le_trans HB0.out B2.out.size
    clear hb O1 B1
    go_wp2_with (at_builtin; refine wpList_append_lk rfl _ _ rfl B _ hl rfl O2.out.hh w1.heap.size ((c, e, n), (lo, hi), ex) rfl HN.out hsz0 Z2.out ?_)
    intro a' n' c' w4 hO4 hg4 ha4
    have P4 := hid (O2.out.pushH hO4 hg4 (by simpa using ha4))
    have o4 : Only (fun y => (Value.slice ha hn hc).ownBlock = some y) (w1.alloc (.cells #[.int .i64 c, .int .i64 e, .int .i64 n, .string lo, .string hi, .bool ex] 75)) w4 := only_of_grown hg4 (fun k e => e)
    have HOL : Hid (∀ y, (Value.slice ha hn hc).ownBlock = some y → y < w.heap.size) := fun y e => HLT.out y (.inl e)
    have K4 := hid (K2.out.to o4 (fun e => by have := HOL.out _ e; omega))
    have I4 := hid (I2.out.to o4 (fun e => by have := HOL.out _ e; omega))
    have L4 : Hid (Only (lbl (.slice ha hn hc) (.slice wa wn wc)) w w4) := (only_of_below B2.out _).then o4 (fun i _ e => .inl e)
    have N4 : Hid (∀ y, lbl (.slice a' n' c') (.slice wa wn wc) y → lbl (.slice ha hn hc) (.slice wa wn wc) y ∨ w1.heap.size ≤ y) := by
      intro y hy
      have key : (Value.slice a' n' c').ownBlock = some y → lbl (.slice ha hn hc) (.slice wa wn wc) y ∨ w1.heap.size ≤ y := by
        intro q
        rcases ha4 with h1 | h1
        · rw [h1] at q; exact .inl (.inl q)
        · rw [h1] at q
          have e3 : w1.heap.size + 1 = y := Option.some.inj q
          exact .inr (by omega)
      rcases hy with e | e
      · exact key e
      · exact .inl (.inr e)
    clear hO4 hg4 ha4 o4 K1 I1 J1 K2 I2 O2 B2 x0 x1 x2 x3 x4 x5 y0
    have y0 := K4.out.cell (j := 0) rfl
    have y1 := K4.out.cell (j := 1) rfl
    have f0 := K4.out.free 0
    have z0 := I4.out.cell (j := 0) rfl
    have z1 := I4.out.cell (j := 1) rfl
    have e0 := I4.out.free 0
    have e1 := I4.out.free 1
    have d2 : ¬ w.heap.size = w.heap.size + 1 + 1 := by omega
    have d3 : ¬ w.heap.size + 1 + 1 = w.heap.size := by omega
    have HF : Hid (∀ W, Only (fun y => y = w.heap.size ∨ y = w.heap.size + 1 + 1) w4 W → LO W B (.slice a' n' c') (.slice wa wn wc) (putL hl wl ((c, e, n), (lo, hi), ex)).1 (putL hl wl ((c, e, n), (lo, hi), ex)).2 ∧ Only (lbl (.slice ha hn hc) (.slice wa wn wc)) w W) := fun W hW => by
      rw [HPL.out]
      refine ⟨P4.out.to hW (fun y hy e => ?_), L4.out.then hW (fun i hi e => by omega)⟩
      have hs1 := HS1.out
      rcases N4.out y hy with h1 | h1
      · have := HLT.out y h1; omega
      · omega
    have N5 : Hid (∀ y, lbl (.slice a' n' c') (.slice wa wn wc) y → lbl (.slice ha hn hc) (.slice wa wn wc) y ∨ w.heap.size ≤ y) := fun y hy => by
      have hs1 := HS1.out
      rcases N4.out y hy with h1 | h1
      · exact .inl h1
      · exact .inr (by omega)
    clear P4 L4 N4 HOL
    go_wp2
    try simp only [Exit.inBlock, Exit.then]
    refine bodyPost_ret (v := .tuple #[.agg #[.slice a' n' c', .slice wa wn wc], .bool true]) ?_ rfl ?_
    · exact results_locks2 rfl _ _ (w.heap.size + 1 + 1) rfl rfl (by go_simp) (by go_simp)
    · refine ⟨a', n', c', wa, wn, wc, by rw [HM.out]; rfl, (HF.out _ ?_).1, (HF.out _ ?_).2, N5.out⟩
      · exact ((only_set (R := fun y => y = w.heap.size ∨ y = w.heap.size + 1 + 1) (p := ⟨w.heap.size, 0, none⟩) (.inl rfl) _).trans (only_set (R := fun y => y = w.heap.size ∨ y = w.heap.size + 1 + 1) (p := ⟨w.heap.size + 1 + 1, 0, none⟩) (.inr rfl) _)).trans (only_set (R := fun y => y = w.heap.size ∨ y = w.heap.size + 1 + 1) (p := ⟨w.heap.size + 1 + 1, 1, none⟩) (.inr rfl) _)
      · exact ((only_set (R := fun y => y = w.heap.size ∨ y = w.heap.size + 1 + 1) (p := ⟨w.heap.size, 0, none⟩) (.inl rfl) _).trans (only_set (R := fun y => y = w.heap.size ∨ y = w.heap.size + 1 + 1) (p := ⟨w.heap.size + 1 + 1, 0, none⟩) (.inr rfl) _)).trans (only_set (R := fun y => y = w.heap.size ∨ y = w.heap.size + 1 + 1) (p := ⟨w.heap.size + 1 + 1, 1, none⟩) (.inr rfl) _)
end Go.Proofs.Ytcpdedpgjaimkaa
/-
  Tables of locks copied: copyLocks of the program, l07Copy of the specification.
-/
namespace Go.Proofs.Ytcpdedpgjaimkaa
open Go.RowKit
set_option linter.unusedVariables false
/-- append of a row of locks as a step of a region that draws. -/
theorem step_append_lr {w : World} {ops : Array Oper} {o : Oper} {a : Act} {K : Act → World → Prop} {Q : Exit → Act → World → Prop} {E : Prop} (hgd : o.guard = none) (s x : Operand)
    (ho : o.op = .call { callee := .builtin .append, args := #[s, x], argTypes := #[69, 69] }) (B : Nat) (v : Value) (l : List LK) (hs : a.eval s = v) (hown : LW w B v l)
    (S : Nat → Prop) (src : Value) (l2 : List LK) (hx : a.eval x = src) (hsrc : Lr w S src l2) (hb : l.length + l2.length ≤ 1048577) (hbase : B ≤ w.heap.size)
    (h : ∀ a' n' c' w', LW w' B (.slice a' n' c') (l ++ l2) → w.grownBy w' v.ownBlock → ((Value.slice a' n' c').ownBlock = v.ownBlock ∨ (Value.slice a' n' c').ownBlock = some w.heap.size) → K (a.put o.dst (.slice a' n' c')) w') : if Region.wanted o (yielded ops a.tmps) = true then Oper.wp Try.prog o a w K Q else E := by
  have hw : Region.wanted o (yielded ops a.tmps) = true := by simp [Region.wanted, hgd]
  rw [if_pos hw]
  obtain ⟨i, hi, hz, hsz', hby'⟩ := info_of infoLockI
  obtain ⟨v', w', hr, h2, h3, h5⟩ := run_append_row_at (P := Try.prog) (w := w) B 69 o.type 75 i _ 6 64 Try.underlying69 hi hz hsz' hby' rfl (by decide) v l.length (lcs l) hown S src l2.length (lcs l2) hsrc (lcs_length _) (lcs_one _) (by unfold maxLen; omega) (by omega) hbase
  obtain ⟨a', c', rfl⟩ := own_shape h2
  unfold Oper.wp execOp
  simp only [ho, resolve, invoke, builtin, Sem.run_bind, Sem.run_pure, Result.andThen_ok, List.map_toArray, List.map_cons, List.map_nil, hs, hx, hr]
  refine h a' _ c' w' ?_ h3 h5
  show World.ownsRow _ _ _ _ _ _ _
  rw [lcs_append, List.length_append]
  exact h2
theorem below_grownN {u w w' : World} (h : Below u.heap.size u w) (hg : w.grownBy w' none) : Below u.heap.size u w' :=
  ⟨hg.os.trans h.os, hg.tape.trans h.tape, hg.output.trans h.output, Nat.le_trans h.size hg.size, fun k hk => (hg.block k (Nat.lt_of_lt_of_le hk h.size) (fun e => by cases e)).trans (h.block k hk)⟩
/-- What a copy leaves. -/
def CpPost (w : World) (hl wl : List LK) (e : Ending) (w' : World) : Prop :=
  ∃ a n c a' n' c', e = .returned (.agg #[.slice a n c, .slice a' n' c']) ∧ LO w' w.heap.size (.slice a n c) (.slice a' n' c') hl wl ∧ Below w.heap.size w w'
theorem lw_empty {v : World} {g B : Nat} (h : Bk v g 75 []) (hB : B ≤ g) : LW v B (.slice (some ⟨g, 0, none⟩) 0 0) [] := ownL_bk (n := 0) h rfl (by omega) hB
theorem wpList_append_lr {w : World} {ops : Array Oper} {rest : List Oper} {o : Oper} {a : Act} {Q : Exit → Act → World → Prop} (hgd : o.guard = none) (s x : Operand)
    (ho : o.op = .call { callee := .builtin .append, args := #[s, x], argTypes := #[69, 69] }) (B : Nat) (v : Value) (l : List LK) (hs : a.eval s = v) (hown : LW w B v l)
    (S : Nat → Prop) (src : Value) (l2 : List LK) (hx : a.eval x = src) (hsrc : Lr w S src l2) (hb : l.length + l2.length ≤ 1048577) (hbase : B ≤ w.heap.size)
    (h : ∀ a' n' c' w', LW w' B (.slice a' n' c') (l ++ l2) → w.grownBy w' v.ownBlock → ((Value.slice a' n' c').ownBlock = v.ownBlock ∨ (Value.slice a' n' c').ownBlock = some w.heap.size) → wpList Try.prog ops Q rest (a.put o.dst (.slice a' n' c')) w') : wpList Try.prog ops Q (o :: rest) a w := by
  obtain ⟨i, hi, hz, hsz, hby⟩ := info_of infoLockI
  refine wpList_append_row_at hgd s x 69 ho B 75 i _ 6 64 Try.underlying69 hi hz hsz hby rfl (by decide) v l.length (lcs l) hs hown S src l2.length (lcs l2) hx hsrc (lcs_length _)
    (lcs_one _) (by unfold maxLen; omega) (by omega) hbase ?_
  intro v' w' k1 k2 k3
  obtain ⟨a', c', rfl⟩ := own_shape k1
  refine h a' _ c' w' ?_ k2 k3
  show World.ownsRow _ _ _ _ _ _ _
  rw [lcs_append, List.length_append]
  exact k1
set_option maxHeartbeats 1000000 in
/-- copyList of locks: a row of its own. -/
theorem copyLk_any (B : Nat) (S : Nat → Prop) (a : Option Addr) (n c : Nat) (l : List LK) (w : World) (h : Lr w S (.slice a n c) l) (hl : l.length ≤ 1048576) (hB : B ≤ w.heap.size) :
    Calls Try.prog 139 #[.slice a n c] w fun e w' => ∃ a' n' c', e = .returned (.slice a' n' c') ∧ LW w' B (.slice a' n' c') l ∧ w.grownBy w' none ∧ ((Value.slice a' n' c').ownBlock = none ∨ (Value.slice a' n' c').ownBlock = some w.heap.size) := by
  have HR := hid h
  have HL : Hid (([] : List LK).length + l.length ≤ 1048577) := by show _ ≤ _; simp; omega
  have HB := hid hB
  clear h hl hB
  go_enter Try.func139, Try.ntmps139
  go_wp2_with (at_builtin; refine wpList_append_lr rfl _ _ rfl B _ [] rfl (lw_nil _ _) S (.slice a n c) l rfl HR.out HL.out HB.out ?_)
  intro a3 n3 c3 w3 hO3 hg3 ha3
  try rw [List.nil_append] at hO3
  have O3 := hid hO3
  have G3 : Hid (w.grownBy w3 none) := hg3
  have A3 : Hid ((Value.slice a3 n3 c3).ownBlock = none ∨ (Value.slice a3 n3 c3).ownBlock = some w.heap.size) := ha3
  clear hO3 hg3 ha3 HR HL HB
  go_wp2
  go_ret
  exact ⟨_, _, _, rfl, O3.out, G3.out, A3.out⟩
set_option maxHeartbeats 4000000 in
set_option maxRecDepth 20000 in
theorem copyLocks_any (S S' : Nat → Prop) (ha : Option Addr) (hn hc : Nat) (wa : Option Addr) (wn wc : Nat) (hl wl : List LK) (w : World) (h1 : Lr w S (.slice ha hn hc) hl) (h2 : Lr w S' (.slice wa wn wc) wl) (hh : hl.length ≤ 1048576) (hw : wl.length ≤ 1048576) :
    Calls Try.prog 83 #[.agg #[.slice ha hn hc, .slice wa wn wc]] w fun r w' => CpPost w hl wl r w' := by
  have B0 : Hid (Below w.heap.size w ((w.alloc (.cells #[.slice ha hn hc, .slice wa wn wc] 71)).alloc (.cells #[.slice none 0 0, .slice none 0 0] 71))) := below_new (below_new (Below.refl _ _))
  have K0 := hid ((Bk.new w 71 [.slice ha hn hc, .slice wa wn wc]).alloc (.cells #[.slice none 0 0, .slice none 0 0] 71))
  have I0 := hid (Bk.new (w.alloc (.cells #[.slice ha hn hc, .slice wa wn wc] 71)) 71 [.slice none 0 0, .slice none 0 0])
  rw [show (w.alloc (.cells #[.slice ha hn hc, .slice wa wn wc] 71)).heap.size = w.heap.size + 1 by simp] at I0
  have H1 := hid h1
  have H2 := hid h2
  clear h1 h2
  unfold CpPost
  go_enter Try.func83, Try.ntmps83
  go_wp2_with fail
  generalize (w.alloc (.cells #[.slice ha hn hc, .slice wa wn wc] 71)).alloc (.cells #[.slice none 0 0, .slice none 0 0] 71) = U at *
  refine wp_region_noPanic ?_
  refine wp_region_held_drew (S := fun v => v.cell? ⟨w.heap.size, 0, none⟩ = some (.slice ha hn hc) ∧ v.cell? ⟨w.heap.size, 1, none⟩ = some (.slice wa wn wc)) (by kernel_rfl) (⟨(K0.out.below (below_drew _)).cell (j := 0) rfl, (K0.out.below (below_drew _)).cell (j := 1) rfl⟩) (fun hHeld => ?_)
  simp only [List.size_toArray, List.length_cons, List.length_nil, Array.replicate_succ, Array.replicate_zero, Nat.reduceAdd, List.push_toArray, List.nil_append, List.cons_append]
  refine wpAnyH_take (i := 0) (v := (.pointer (some ⟨w.heap.size, 0, none⟩))) rfl (by kernel_rfl) (by kernel_rfl) (by kernel_rfl) (fun _ _ _ h => h) (Or.inl ⟨by rfl, ?_⟩) (by assumption) ?_
  · intro w hSw
    (try dsimp only at hSw)
    go_simp
  try simp only [List.getElem_toArray]
  try simp only [List.getElem_cons_succ]
  try simp only [List.getElem_cons_zero]
  try simp only [Act.put]
  try simp only [List.setIfInBounds_toArray]
  try simp only [List.set_cons_succ]
  try simp only [List.set_cons_zero]
  refine wpAnyH_take (i := 1) (v := (.slice ha hn hc)) rfl (by kernel_rfl) (by kernel_rfl) (by kernel_rfl) (fun _ _ _ h => h) (Or.inl ⟨by rfl, ?_⟩) (by assumption) ?_
  · intro w hSw
    (try dsimp only at hSw)
    go_simp
  try simp only [List.getElem_toArray]
  try simp only [List.getElem_cons_succ]
  try simp only [List.getElem_cons_zero]
  try simp only [Act.put]
  try simp only [List.setIfInBounds_toArray]
  try simp only [List.set_cons_succ]
  try simp only [List.set_cons_zero]
  refine wpAnyH_take (i := 3) (v := (.pointer (some ⟨w.heap.size, 1, none⟩))) rfl (by kernel_rfl) (by kernel_rfl) (by kernel_rfl) (fun _ _ _ h => h) (Or.inl ⟨by rfl, ?_⟩) (by assumption) ?_
  · intro w hSw
    (try dsimp only at hSw)
    go_simp
  try simp only [List.getElem_toArray]
  try simp only [List.getElem_cons_succ]
  try simp only [List.getElem_cons_zero]
  try simp only [Act.put]
  try simp only [List.setIfInBounds_toArray]
  try simp only [List.set_cons_succ]
  try simp only [List.set_cons_zero]
  refine wpAnyH_take (i := 4) (v := (.slice wa wn wc)) rfl (by kernel_rfl) (by kernel_rfl) (by kernel_rfl) (fun _ _ _ h => h) (Or.inl ⟨by rfl, ?_⟩) (by assumption) ?_
  · intro w hSw
    (try dsimp only at hSw)
    go_simp
  try simp only [List.getElem_toArray]
  try simp only [List.getElem_cons_succ]
  try simp only [List.getElem_cons_zero]
  try simp only [Act.put]
  try simp only [List.setIfInBounds_toArray]
  try simp only [List.set_cons_succ]
  try simp only [List.set_cons_zero]
  have BD := hid (B0.out.trans ((below_drew U).mono B0.out.size))
  refine wpAnyH_ready (rs := [2]) (by kernel_rfl) (by simp) ?_
  refine AllReadyH.cons rfl (fun K1 hK => ?_) AllReadyH.nil
  go_simp
  refine (copyLk_any w.heap.size S ha hn hc hl _ (H1.out.below BD.out) (by omega) (BD.out.size)).mono ?_
  rintro r w4 ⟨a4, n4, c4, rfl, hO4, hg4, ha4⟩
  have P4 := hid hO4
  have B4 := hid (below_grownN BD.out hg4)
  have K4 := hid ((K0.out.below (below_drew _)).below (below_grownN (Below.refl _ _) hg4))
  have I4 := hid ((I0.out.below (below_drew _)).below (below_grownN (Below.refl _ _) hg4))
  have A4 : Hid (∀ y, (Value.slice a4 n4 c4).ownBlock = some y → w.heap.size + 1 < y) := fun y e => by
    rcases ha4 with h1 | h1
    · rw [h1] at e; cases e
    · rw [h1] at e
      have e3 : U.heap.size = y := Option.some.inj e
      have := I0.out.lt
      omega
  clear hO4 hg4 ha4 BD
  go_wp2_with fail
  refine hK.out _ _ ?_ (fun hHeld => ?_)
  · exact ⟨K4.out.cell (j := 0) rfl, K4.out.cell (j := 1) rfl⟩
  clear hK K1
  try simp only [List.getElem_toArray]
  try simp only [List.getElem_cons_succ]
  try simp only [List.getElem_cons_zero]
  try simp only [Act.put]
  try simp only [List.setIfInBounds_toArray]
  try simp only [List.set_cons_succ]
  try simp only [List.set_cons_zero]
  refine wpAnyH_ready (rs := [5]) (by kernel_rfl) (by simp) ?_
  refine AllReadyH.cons rfl (fun K1 hK => ?_) AllReadyH.nil
  go_simp
  refine (copyLk_any w.heap.size S' wa wn wc wl _ (H2.out.below B4.out) (by omega) (B4.out.size)).mono ?_
  rintro r w5 ⟨a5, n5, c5, rfl, hO5, hg5, ha5⟩
  have P5 : Hid (LO w5 w.heap.size (.slice a4 n4 c4) (.slice a5 n5 c5) hl wl) := (show LO w4 w.heap.size (.slice a4 n4 c4) (.slice none 0 0) hl [] from ⟨P4.out, lw_nil _ _, fun y h e => by cases e⟩).pushW hO5 hg5 ha5
  have B5 := hid (below_grownN B4.out hg5)
  have K5 := hid (K4.out.below (below_grownN (Below.refl _ _) hg5))
  have I5 := hid (I4.out.below (below_grownN (Below.refl _ _) hg5))
  have A5 : Hid (∀ y, lbl (.slice a4 n4 c4) (.slice a5 n5 c5) y → w.heap.size + 1 < y) := fun y e => by
    rcases e with e | e
    · exact A4.out y e
    · rcases ha5 with h1 | h1
      · rw [h1] at e; cases e
      · rw [h1] at e
        have e3 : w4.heap.size = y := Option.some.inj e
        have := I4.out.lt
        omega
  clear hO5 hg5 ha5 P4 B4 K4 I4 A4
  go_wp2_with fail
  refine hK.out _ _ ?_ (fun hHeld => ?_)
  · exact ⟨K5.out.cell (j := 0) rfl, K5.out.cell (j := 1) rfl⟩
  clear hK K1
  try simp only [List.getElem_toArray]
  try simp only [List.getElem_cons_succ]
  try simp only [List.getElem_cons_zero]
  try simp only [Act.put]
  try simp only [List.setIfInBounds_toArray]
  try simp only [List.set_cons_succ]
  try simp only [List.set_cons_zero]
  refine wpAnyH_take (i := 6) (v := (.agg #[.slice a4 n4 c4, .slice a5 n5 c5])) rfl (by kernel_rfl) (by kernel_rfl) (by kernel_rfl) (fun _ _ _ h => h) (Or.inl ⟨by rfl, ?_⟩) (by assumption) ?_
  · intro w hSw
    (try dsimp only at hSw)
    go_simp
  try simp only [List.getElem_toArray]
  try simp only [List.getElem_cons_succ]
  try simp only [List.getElem_cons_zero]
  try simp only [Act.put]
  try simp only [List.setIfInBounds_toArray]
  try simp only [List.set_cons_succ]
  try simp only [List.set_cons_zero]
  have z0 := I5.out.cell (j := 0) rfl
  have z1 := I5.out.cell (j := 1) rfl
  have e0 := I5.out.free 0
  have e1 := I5.out.free 1
  have K6 : Hid (Bk ((w5.setCell ⟨w.heap.size + 1, 0, none⟩ (.slice a4 n4 c4)).setCell ⟨w.heap.size + 1, 1, none⟩ (.slice a5 n5 c5)) w.heap.size 71 [.slice ha hn hc, .slice wa wn wc]) := (K5.out.setOther (by omega) 0 _).setOther (by omega) 1 _
  have HF : Hid (LO ((w5.setCell ⟨w.heap.size + 1, 0, none⟩ (.slice a4 n4 c4)).setCell ⟨w.heap.size + 1, 1, none⟩ (.slice a5 n5 c5)) w.heap.size (.slice a4 n4 c4) (.slice a5 n5 c5) hl wl ∧ Below w.heap.size w ((w5.setCell ⟨w.heap.size + 1, 0, none⟩ (.slice a4 n4 c4)).setCell ⟨w.heap.size + 1, 1, none⟩ (.slice a5 n5 c5))) := by
    have ow : Only (fun y => y = w.heap.size + 1) w5 ((w5.setCell ⟨w.heap.size + 1, 0, none⟩ (.slice a4 n4 c4)).setCell ⟨w.heap.size + 1, 1, none⟩ (.slice a5 n5 c5)) := (only_set (R := fun y => y = w.heap.size + 1) (p := ⟨w.heap.size + 1, 0, none⟩) rfl _).trans (only_set (R := fun y => y = w.heap.size + 1) (p := ⟨w.heap.size + 1, 1, none⟩) rfl _)
    exact ⟨P5.out.to ow (fun y hy e => by have := A5.out y hy; omega), B5.out.trans (ow.below B5.out.size (fun b hb e => by omega))⟩
  refine wpAnyH_ready (rs := [7]) (by kernel_rfl) (by simp) ?_
  refine AllReadyH.cons rfl (fun K1 hK => ?_) AllReadyH.nil
  go_simp
  try go_wp2_with fail
  refine hK.out _ _ ?_ (fun hHeld => ?_)
  · exact ⟨K6.out.cell (j := 0) rfl, K6.out.cell (j := 1) rfl⟩
  clear hK K1
  try simp only [List.getElem_toArray]
  try simp only [List.getElem_cons_succ]
  try simp only [List.getElem_cons_zero]
  try simp only [Act.put]
  try simp only [List.setIfInBounds_toArray]
  try simp only [List.set_cons_succ]
  try simp only [List.set_cons_zero]
  refine wpAnyH_done (by kernel_rfl) ?_ _
  refine NoPanic.normal ?_
  clear z0 z1 e0 e1
  have q0 : ((w5.setCell ⟨w.heap.size + 1, 0, none⟩ (.slice a4 n4 c4)).setCell ⟨w.heap.size + 1, 1, none⟩ (.slice a5 n5 c5)).cell? ⟨w.heap.size + 1, 0, none⟩ = some (.slice a4 n4 c4) := ((I5.out.set 0 _).set 1 _).cell (j := 0) rfl
  have q1 : ((w5.setCell ⟨w.heap.size + 1, 0, none⟩ (.slice a4 n4 c4)).setCell ⟨w.heap.size + 1, 1, none⟩ (.slice a5 n5 c5)).cell? ⟨w.heap.size + 1, 1, none⟩ = some (.slice a5 n5 c5) := ((I5.out.set 0 _).set 1 _).cell (j := 1) rfl
  generalize (w5.setCell ⟨w.heap.size + 1, 0, none⟩ (.slice a4 n4 c4)).setCell ⟨w.heap.size + 1, 1, none⟩ (.slice a5 n5 c5) = V at *
  go_wp2
  try simp only [Exit.inBlock, Exit.then]
  refine bodyPost_ret (v := .agg #[.slice a4 n4 c4, .slice a5 n5 c5]) ?_ rfl ?_
  · exact results_locks rfl _ _ (w.heap.size + 1) rfl q0 q1
  · exact ⟨a4, n4, c4, a5, n5, c5, rfl, HF.out.1, HF.out.2⟩
end Go.Proofs.Ytcpdedpgjaimkaa
