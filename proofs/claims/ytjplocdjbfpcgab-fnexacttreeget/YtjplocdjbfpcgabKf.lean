/-
  kidFor, get: the way down to a key.
-/
import Derived.Test.YtjplocdjbfpcgabBs
namespace Go.Proofs.Ytjplocdjbfpcgab
open Go.RowKit
theorem kidF_stop {ks : List T} {k : ByteArray} {f p : Nat} (h : ¬ (p + 1 < ks.length ∧ klt k (tAt ks (p + 1)).least = false)) : kidF ks k f p = p := by
  cases f with
  | zero => rfl
  | succ f => rw [kidF, if_neg h]
set_option maxHeartbeats 4000000 in
theorem kidFor_any (S : Nat → Prop) (b : Nat) (t : T) (k : ByteArray) (w : World) (h : Limb w S b t) (hf : ∀ x ∈ t.ks, x.full false = true) (hs : t.ks.length ≤ 1048576) :
    Calls Try.prog 73 #[.pointer (some ⟨b, 0, none⟩), .string k] w fun e w' => e = .returned (.int .i64 (kidOf t.ks k : Nat)) ∧ ∃ q, w' = w.drewN q := by
  have H0 := hid h
  have HF := hid hf
  clear h hf
  go_enter Try.func73, Try.ntmps73
  go_wp2_with fail
  go_loopw [5] (fun x wr => ∃ (p f q : Nat), x = .int .i64 p ∧ wr = w.drewN q ∧ Hid (kidF t.ks k f p = kidOf t.ks k) ∧ t.ks.length ≤ p + f ∧ p ≤ t.ks.length) (fun x _ => t.ks.length - (intOf x).toNat)
  case atStart => exact ⟨0, t.ks.length, 0, rfl, rfl, rfl, by omega, Nat.zero_le _⟩
  case round =>
    obtain ⟨p, f, q, rfl, rfl, HK, hpf, hpl⟩ := hrel
    have HL := hid (H0.out.kept (Below.drewN' (Below.refl _ _) q))
    obtain ⟨ap, cp, ak, ck, A, c0, c1, _, hk, hkid, _, _⟩ := HL.out.see
    have hck := (Rw.len hk).2
    by_cases hlt : p + 1 < t.ks.length
    · have hlt' : (p : Int) + 1 < (t.ks.length : Int) := by omega
      obtain ⟨x, off, rfl, _, _, hc⟩ := Rw.at hk (by omega)
      have d0 := hc (p + 1) _ (ptrs_at A _ (p + 1) hlt)
      obtain ⟨S1, _, hk1⟩ := hkid (p + 1) hlt
      have HK1 := hid hk1
      have HNE := hid (full_ne _ _ (HF.out _ (tAt_mem hlt)))
      simp only [ptr] at d0
      clear hc hk hkid hk1
      generalize A (p + 1) = bk at *
      go_wp2_with fail
      refine (least_any S1 bk _ _ HK1.out HNE.out).mono ?_
      rintro e w1 ⟨rfl, q1, rfl⟩
      cases hkl : klt k (tAt t.ks (p + 1)).least with
      | false =>
        obtain ⟨f, rfl⟩ : ∃ g, f = g + 1 := ⟨f - 1, by omega⟩
        have HK2 : Hid (kidF t.ks k f (p + 1) = kidOf t.ks k) := by
          have := HK.out
          rw [kidF, if_pos ⟨hlt, hkl⟩] at this
          exact this
        have hle : Op.bytesLess k.toList (tAt t.ks (p + 1)).least.toList = false := hkl
        generalize (tAt t.ks (p + 1)).least = z at *
        clear hkl
        rcases tri z k with ⟨h1, h2, h3, h4⟩ | rfl | ⟨h1, h2, h3, h4⟩
        · go_wp2
          go_roundw
          case rel => exact ⟨p + 1, f, q + q1, by go_num, rfl, HK2.out, by omega, by omega⟩
          case measure => simp [intOf]; omega
        · go_wp2
          go_roundw
          case rel => exact ⟨p + 1, f, q + q1, by go_num, rfl, HK2.out, by omega, by omega⟩
          case measure => simp [intOf]; omega
        · rw [hle] at h2; cases h2
      | true =>
        have HK2 : Hid (kidOf t.ks k = p) := by
          have := HK.out
          rw [kidF_stop (by intro h; rw [hkl] at h; cases h.2)] at this
          exact this.symm
        have hle : Op.bytesLess k.toList (tAt t.ks (p + 1)).least.toList = true := hkl
        generalize (tAt t.ks (p + 1)).least = z at *
        clear hkl
        rcases tri z k with ⟨h1, h2, h3, h4⟩ | rfl | ⟨h1, h2, h3, h4⟩
        · rw [hle] at h2; cases h2
        · rw [less_irrefl] at hle; cases hle
        · go_wp2
          go_ret
          exact ⟨by rw [HK2.out]; rfl, q + q1, rfl⟩
    · have hlt' : ¬ (p : Int) + 1 < (t.ks.length : Int) := by omega
      have HK2 : Hid (kidOf t.ks k = p) := by
        have := HK.out
        rw [kidF_stop (fun h => hlt h.1)] at this
        exact this.symm
      clear hk hkid
      go_wp2
      go_ret
      exact ⟨by rw [HK2.out]; rfl, q, rfl⟩
end Go.Proofs.Ytjplocdjbfpcgab
