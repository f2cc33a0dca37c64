/-
  Rows of replies: the law's helper makes new ones.
-/
import Derived.Test.YtnbafoennnhppabRyB
import Derived.Deep.RegionLaw
namespace Go.Proofs.Ytnbafoennnhppab
open Go.RowKit
set_option linter.unusedVariables false
/-- New replies: each has its pairs in a block of its own, one behind the other. -/
structure YI (w : World) (g : Nat) (V : List RV) : Prop where
  row : ∀ i, i < V.length → ∃ y, (rvAt V i).2 = .slice (some ⟨y, 0, none⟩) (rvAt V i).1.ps.length (rvAt V i).1.ps.length ∧ g < y ∧ Bk w y 63 (pcs (rvAt V i).1.ps)
  up : ∀ i j y z, i < j → j < V.length → (rvAt V i).2.ownBlock = some y → (rvAt V j).2.ownBlock = some z → y < z
theorem YI.to {w w' : World} {g : Nat} {V : List RV} (h : YI w g V) {R : Nat → Prop} (ho : Only R w w') (hR : ∀ y, g < y → ¬ R y) : YI w' g V :=
  ⟨fun i hi => by obtain ⟨y, h1, h2, h3⟩ := h.row i hi; exact ⟨y, h1, h2, h3.to ho (hR y h2)⟩, h.up⟩
theorem YI.below {w w' : World} {g : Nat} {V : List RV} (h : YI w g V) (hb : Below w.heap.size w w') : YI w' g V :=
  ⟨fun i hi => by obtain ⟨y, h1, h2, h3⟩ := h.row i hi; exact ⟨y, h1, h2, h3.below hb⟩, h.up⟩
theorem rvAt_left {V : List RV} {p : RV} {i : Nat} (h : i < V.length) : rvAt (V ++ [p]) i = rvAt V i := by simp [rvAt, List.getElem?_append_left h]
theorem rvAt_right {V : List RV} {p : RV} : rvAt (V ++ [p]) V.length = p := by simp [rvAt]
theorem YI.push {w w' : World} {g y : Nat} {V : List RV} {r : RY} (h : YI w g V) (hb : Below w.heap.size w w') (hy : w.heap.size ≤ y) (hg : g < y) (hB : Bk w' y 63 (pcs r.ps)) : YI w' g (V ++ [(r, .slice (some ⟨y, 0, none⟩) r.ps.length r.ps.length)]) := by
  have hk := h.below hb
  refine ⟨fun i hi => ?_, fun i j y1 z hij hj h1 h2 => ?_⟩
  · rw [List.length_append, List.length_singleton] at hi
    rcases Nat.lt_or_ge i V.length with hl | hl
    · rw [rvAt_left hl]; exact hk.row i hl
    · have : i = V.length := by omega
      subst this
      rw [rvAt_right]
      exact ⟨y, rfl, hg, hB⟩
  · rw [List.length_append, List.length_singleton] at hj
    rw [rvAt_left (by omega)] at h1
    rcases Nat.lt_or_ge j V.length with hl | hl
    · rw [rvAt_left hl] at h2; exact h.up i j y1 z hij hl h1 h2
    · have : j = V.length := by omega
      subst this
      rw [rvAt_right] at h2
      cases h2
      obtain ⟨y2, e1, _, e3⟩ := h.row i (by omega)
      rw [e1] at h1
      cases h1
      exact Nat.lt_of_lt_of_le e3.lt hy
theorem YI.yr {w : World} {g n : Nat} {V : List RV} (h : YI w g V) (hB : Bk w g 46 (rycs V)) (hn : n = V.length) (hc : n ≤ 9223372036854775807) (hp : ∀ p ∈ V, p.1.ps.length ≤ 1048576) (S : Nat → Prop) (hS : ∀ y, g ≤ y → S y) : Yr w S (.slice (some ⟨g, 0, none⟩) n n) (V.map (·.1)) := by
  subst hn
  refine ⟨V, rfl, hB.rw (Nat.le_refl _) hc (fun h0 => by rw [List.eq_nil_of_length_eq_zero h0]; rfl) S (hS g (Nat.le_refl _)), fun p hm => ?_⟩
  obtain ⟨i, hi, e⟩ := List.mem_iff_getElem.1 hm
  have e2 : rvAt V i = p := by simp [rvAt, hi, e]
  obtain ⟨y, h1, h2, h3⟩ := h.row i hi
  rw [e2] at h1 h3
  rw [h1]
  exact h3.pr rfl (by have := hp p hm; omega) S (hS y (by omega))
theorem bk_mid {g : Nat} {T : TypeId} (C : List Value) : ∀ (N Z A : List Value) (w : World), Bk w g T (A ++ Z ++ C) → Z.length = N.length → Bk (w.setCells g A.length N) g T (A ++ N ++ C)
  | [], Z, A, w, h, hz => by
    have : Z = [] := List.eq_nil_of_length_eq_zero hz
    subst this
    exact h
  | x :: N, [], A, w, h, hz => by simp at hz
  | x :: N, z :: Z, A, w, h, hz => by
    have h1 := h.set A.length x
    have e : (A ++ z :: Z ++ C).set A.length x = (A ++ [x]) ++ Z ++ C := by simp
    rw [e] at h1
    have h2 := bk_mid C N Z (A ++ [x]) _ h1 (by simpa using hz)
    rw [World.setCells]
    simpa using h2
theorem only_mid {R : Nat → Prop} {b : Nat} (h : R b) : ∀ (vs : List Value) (k : Nat) (w : World), Only R w (w.setCells b k vs)
  | [], _, w => Only.refl _ _
  | v :: vs, k, w => by
    rw [World.setCells]
    exact (only_set h v).trans (only_mid h vs (k + 1) _)
def ryZ : RV := (default, .slice none 0 0)
theorem ryZ_cs : ryZ.1.cs ryZ.2 = [.int .i64 0, .int .i64 0, .int .i64 0, .int .i64 0, .int .i64 0, .string ⟨#[]⟩, .string ⟨#[]⟩, .string ⟨#[]⟩, .string ⟨#[]⟩, .int .i64 0, .bool false, .int .i64 0, .slice none 0 0] := rfl
/-- A row of which the first replies are made. -/
def ryPt (V : List RV) (n : Nat) : List RV := V ++ List.replicate (n - V.length) ryZ
theorem ryPt_push (V : List RV) (n : Nat) (h : V.length < n) (q : RV) : rycs (ryPt V n) = rycs V ++ ryZ.1.cs ryZ.2 ++ rycs (List.replicate (n - (V.length + 1)) ryZ) ∧ rycs (ryPt (V ++ [q]) n) = rycs V ++ q.1.cs q.2 ++ rycs (List.replicate (n - (V.length + 1)) ryZ) := by
  have e : n - V.length = (n - (V.length + 1)) + 1 := by omega
  constructor
  · rw [ryPt, e, rycs_append, List.replicate_succ, rycs, List.append_assoc]
  · rw [ryPt, rycs_append, rycs_append, List.length_append, List.length_singleton]
    simp [rycs]
theorem ryPt_full (V : List RV) (n : Nat) (h : n = V.length) : ryPt V n = V := by subst h; simp [ryPt]
theorem infoReplyI : (Try.prog.info? 46).map (fun i => (i.zero, i.size, i.bytes)) = some (some (.agg #[.int .i64 0, .int .i64 0, .int .i64 0, .int .i64 0, .int .i64 0, .string ⟨#[]⟩, .string ⟨#[]⟩, .string ⟨#[]⟩, .string ⟨#[]⟩, .int .i64 0, .bool false, .int .i64 0, .slice none 0 0]), 13, 152) := by kernel_rfl
theorem ry_made (n : Nat) : madeCells (Value.agg #[.int .i64 0, .int .i64 0, .int .i64 0, .int .i64 0, .int .i64 0, .string ⟨#[]⟩, .string ⟨#[]⟩, .string ⟨#[]⟩, .string ⟨#[]⟩, .int .i64 0, .bool false, .int .i64 0, .slice none 0 0]).cells (n * 13) = (rycs (List.replicate n ryZ)).toArray := by
  apply Array.ext
  · simp [madeCells, rycs_length]
  · intro i h1 h2
    simp [rycs_length] at h2
    simp only [madeCells, List.getElem_toArray]
    have hq : rvAt (List.replicate n ryZ) (i / 13) = ryZ := by simp [rvAt, show i / 13 < n by omega]
    have h0 := rycs_at (List.replicate n ryZ) (i / 13) (by simp; omega)
    rw [hq, ryZ_cs] at h0
    have hm : i % 13 < 13 := Nat.mod_lt _ (by omega)
    have hs : (Value.agg #[.int .i64 0, .int .i64 0, .int .i64 0, .int .i64 0, .int .i64 0, .string ⟨#[]⟩, .string ⟨#[]⟩, .string ⟨#[]⟩, .string ⟨#[]⟩, .int .i64 0, .bool false, .int .i64 0, .slice none 0 0]).cells.size = 13 := by simp [Value.cells]
    obtain ⟨u, hu⟩ : ∃ u, ([.int .i64 0, .int .i64 0, .int .i64 0, .int .i64 0, .int .i64 0, .string ⟨#[]⟩, .string ⟨#[]⟩, .string ⟨#[]⟩, .string ⟨#[]⟩, .int .i64 0, .bool false, .int .i64 0, .slice none 0 0] : List Value)[i % 13]? = some u := ⟨_, List.getElem?_eq_getElem (by simpa using hm)⟩
    have h3 := h0 (i % 13) u hu
    rw [show i / 13 * 13 + i % 13 = i by omega] at h3
    have h4 := (List.getElem?_eq_some_iff.1 h3).2
    rw [h4]
    have hc : (Value.agg #[.int .i64 0, .int .i64 0, .int .i64 0, .int .i64 0, .int .i64 0, .string ⟨#[]⟩, .string ⟨#[]⟩, .string ⟨#[]⟩, .string ⟨#[]⟩, .int .i64 0, .bool false, .int .i64 0, .slice none 0 0]).cells = ([.int .i64 0, .int .i64 0, .int .i64 0, .int .i64 0, .int .i64 0, .string ⟨#[]⟩, .string ⟨#[]⟩, .string ⟨#[]⟩, .string ⟨#[]⟩, .int .i64 0, .bool false, .int .i64 0, .slice none 0 0] : List Value).toArray := by simp [Value.cells]
    simp only [Array.getElem_map, Array.getElem_range, hs]
    rw [hc]
    have hm2 : i % 13 < ([.int .i64 0, .int .i64 0, .int .i64 0, .int .i64 0, .int .i64 0, .string ⟨#[]⟩, .string ⟨#[]⟩, .string ⟨#[]⟩, .string ⟨#[]⟩, .int .i64 0, .bool false, .int .i64 0, .slice none 0 0] : List Value).length := by simpa using hm
    have h5 := (List.getElem?_eq_some_iff.1 hu).2
    simp only [getElem!_def, List.getElem?_toArray, hu]
end Go.Proofs.Ytnbafoennnhppab

