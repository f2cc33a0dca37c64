/-
  What is known of a tree that is read.
-/
import Derived.Test.YtbaggkfgnjenoaaRd5
import Derived.Test.YtbaggkfgnjenoaaTo
namespace Go.Proofs.Ytbaggkfgnjenoaa
open Go.RowKit
structure OkF (ns : List NB) (t : T) : Prop where
  root : rootS ns = some t
  few : t.ps.length + t.ks.length ≤ 8
  lv : t.lv ≤ 13
  ht : t.ht ≤ 13
  all : t.all.length ≤ 200
  ok : pOk t.all = true
  dp : ns.length ≠ 0 → t.dp = t.dpt
  nil : ns.length = 0 → t = .mk [] []
theorem okT_facts {ns : List NB} {t : T} (h : okT ns = some t) : OkF ns t := by
  by_cases hne : ns.length = 0
  · rw [okT, if_pos hne] at h
    cases h
    exact ⟨by rw [rootS, if_pos hne], by decide, by decide, by decide, by decide, by decide, fun h => absurd hne h, fun _ => rfl⟩
  · have g := (okT_good hne).1 h
    have hr := g.read
    have hi := rdS_info ns 13 0 t ns.length hr
    have hf := g.full
    obtain ⟨e, he⟩ := g.even
    obtain ⟨ps, ks⟩ := t
    have hfew : (T.mk ps ks).ps.length + (T.mk ps ks).ks.length ≤ 8 ∧ (T.mk ps ks).bare = false := by
      show ps.length + ks.length ≤ 8 ∧ (decide (ps.length + ks.length = 0) = false)
      rw [T.full] at hf
      split at hf
      · rename_i hk
        subst hk
        simp at hf
        constructor
        · simp; omega
        · simp; intro h0; subst h0; simp at hf
      · simp at hf
        constructor
        · have hp0 : ps.length = 0 := by rw [hf.1.2]; rfl
          omega
        · simp; intro h0 h1; subst h1; simp at hf
    refine ⟨?_, hfew.1, ?_, hi.2.2, ?_, g.ok, fun _ => ?_, fun h => absurd h hne⟩
    · rw [rootS, if_neg hne, hr]; simp
    · rw [ev_lv e _ he]; exact Nat.le_trans (ev_ht e _ he) hi.2.2
    · exact pOk_len g.ok
    · rw [g.dp, T.dpt, hfew.2]; rfl
end Go.Proofs.Ytbaggkfgnjenoaa

