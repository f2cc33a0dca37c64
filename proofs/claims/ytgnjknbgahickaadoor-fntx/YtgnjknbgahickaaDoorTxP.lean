/-
  Names of transactions read from texts, in plain: what is cut at the dots, and that the text of a right name is read again.
-/
import Derived.Test.YtgnjknbgahickaaDoorTxT
import Derived.Test.YtgnjknbgahickaaDoorTextNum
import Derived.Lib.CutLaws
namespace Go.Proofs.YtgnjknbgahickaaDoor
open Go.RowKit
set_option linter.unusedVariables false
theorem index_dot (ys : List UInt8) : ∀ xs : List UInt8, (∀ c ∈ xs, c ≠ 46) → Lib.index (xs ++ 46 :: ys) [46] = xs.length := by
  intro xs
  induction xs with
  | nil => intro _; simp [Lib.index, List.isPrefixOf]
  | cons x xs ih =>
    intro h
    have hx : x ≠ 46 := h x (by simp)
    have hi := ih (fun c hc => h c (by simp [hc]))
    rw [List.cons_append]
    unfold Lib.index
    rw [if_neg (by simp [List.isPrefixOf, Ne.symm hx]), hi, if_neg (by simp <;> omega)]
    simp
theorem cut_dot (xs ys : List UInt8) (h : ∀ c ∈ xs, c ≠ 46) : Lib.cut (xs ++ 46 :: ys) [46] = (xs, ys, true) := by
  unfold Lib.cut
  rw [index_dot ys xs h]
  simp
/-- What strings.Cut at a dot tells ahead of it, and behind it. -/
def pcA (s : ByteArray) : ByteArray := ⟨(Lib.cut s.data.toList [46]).1.toArray⟩
def pcB (s : ByteArray) : ByteArray := ⟨(Lib.cut s.data.toList [46]).2.1.toArray⟩
def tgN (s : ByteArray) : Int := (tn s).getD 0
/-- The three numbers that are read. -/
def ptx (s : ByteArray) : TX := (tgN (pcA s), tgN (pcA (pcB s)), tgN (pcB (pcB s)))
theorem numS_dig (n : Int) (h0 : 0 ≤ n) (h1 : n ≤ 1099511627775) : tn (numS n) = some n ∧ ∀ c ∈ (numS n).data.toList, c ≠ 46 := by
  have hs : 1 ≤ (numS n).size := by
    rw [numS_ok n h0 h1]
    have := (dec_dig n.toNat n.toNat (Nat.le_refl _)).2.2
    show 1 ≤ (Lib.decDigits n.toNat).toArray.size
    simp
    cases h : Lib.decDigits n.toNat with
    | nil => exact absurd h this
    | cons a l => simp
  have ht := tn_of n (numS n) rfl hs
  refine ⟨ht, fun c hc e => ?_⟩
  have hd := (tn_digits n (numS n) ht).2 c hc
  subst e
  exact absurd hd.1 (by decide)
theorem txT_data (x : TX) (h : txOk x = true) : (txT x).data.toList = (numS x.1).data.toList ++ 46 :: ((numS x.2.1).data.toList ++ 46 :: (numS x.2.2).data.toList) := by
  rw [txT_yes h]
  simp [ByteArray.data_append]
theorem ptx_txT (x : TX) (h : txOk x = true) : ptx (txT x) = x := by
  obtain ⟨k0, k1, k2, k3, k4, k5⟩ := (txOk_iff x).1 h
  have a := numS_dig x.1 k0 (by omega)
  have b := numS_dig x.2.1 (by omega) (by omega)
  have c := numS_dig x.2.2 (by omega) (by omega)
  have e1 : pcA (txT x) = numS x.1 := by unfold pcA; rw [txT_data x h, cut_dot _ _ a.2]
  have e2 : (pcB (txT x)).data.toList = (numS x.2.1).data.toList ++ 46 :: (numS x.2.2).data.toList := by unfold pcB; rw [txT_data x h, cut_dot _ _ a.2]
  have e3 : pcA (pcB (txT x)) = numS x.2.1 := by unfold pcA; rw [e2, cut_dot _ _ b.2]
  have e4 : pcB (pcB (txT x)) = numS x.2.2 := by unfold pcB at e2 ⊢; rw [e2, cut_dot _ _ b.2]
  unfold ptx tgN
  rw [e1, e3, e4, a.1, b.1, c.1]
  rfl
theorem txT_inj {x y : TX} (hx : txOk x = true) (hy : txOk y = true) (h : txT x = txT y) : x = y := by
  rw [← ptx_txT x hx, h, ptx_txT y hy]
/-- TextTx of the program in plain: a right name whose text is s, or none. -/
def ttV (s : ByteArray) : Option TX := if txOk (ptx s) = true ∧ txT (ptx s) = s then some (ptx s) else none
theorem ttV_some {s : ByteArray} {x : TX} : ttV s = some x ↔ txOk x = true ∧ txT x = s := by
  unfold ttV
  constructor
  · intro h
    split at h
    · rename_i q
      cases h
      exact q
    · cases h
  · rintro ⟨h1, rfl⟩
    rw [ptx_txT x h1, if_pos ⟨h1, rfl⟩]
end Go.Proofs.YtgnjknbgahickaaDoor

