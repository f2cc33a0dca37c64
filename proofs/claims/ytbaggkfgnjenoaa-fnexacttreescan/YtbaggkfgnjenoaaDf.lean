/-
  slices.IndexFunc, slices.DeleteFunc over pairs, with the scan's function.
-/
import Derived.Test.YtbaggkfgnjenoaaSc
import Derived.Test.YtbaggkfgnjenoaaBs
import Derived.Test.YtbaggkfgnjenoaaAl
import Derived.Test.YtbaggkfgnjenoaaNodeL
namespace Go.Proofs.Ytbaggkfgnjenoaa
open Go.RowKit
/-- Block b is a row whose first n pairs are X's. -/
def Ro (w : World) (b n : Nat) (X : Nat → PB) : Prop := ∃ T xs, Bk w b T xs ∧ ∀ x, x < n → xs[x * 2]? = some (.string (X x).1) ∧ xs[x * 2 + 1]? = some (.string (X x).2)
theorem Ro.below {w w' : World} {b n : Nat} {X : Nat → PB} (h : Ro w b n X) (hb : Below w.heap.size w w') : Ro w' b n X := by
  obtain ⟨T, xs, h1, h2⟩ := h
  exact ⟨T, xs, h1.below hb, h2⟩
theorem Ro.cell {w : World} {b n : Nat} {X : Nat → PB} (h : Ro w b n X) {x : Nat} (hx : x < n) : w.cell? ⟨b, x * 2, none⟩ = some (.string (X x).1) ∧ w.cell? ⟨b, x * 2 + 1, none⟩ = some (.string (X x).2) ∧ w.frozen? ⟨b, x * 2, none⟩ = false ∧ w.frozen? ⟨b, x * 2 + 1, none⟩ = false := by
  obtain ⟨T, xs, h1, h2⟩ := h
  exact ⟨h1.cell (h2 x hx).1, h1.cell (h2 x hx).2, h1.free _, h1.free _⟩
theorem Ro.lt {w : World} {b n : Nat} {X : Nat → PB} (h : Ro w b n X) : b < w.heap.size := by
  obtain ⟨T, xs, h1, h2⟩ := h
  exact h1.lt
theorem Ro.uf {w : World} {b n : Nat} {X : Nat → PB} (h : Ro w b n X) : Uf w b := by
  obtain ⟨T, xs, h1, h2⟩ := h
  exact h1.uf
def upd (X : Nat → PB) (i : Nat) (p : PB) (x : Nat) : PB := if x = i then p else X x
theorem Ro.set {w : World} {b n : Nat} {X : Nat → PB} (h : Ro w b n X) {i : Nat} (hi : i < n) (k v : ByteArray) : Ro ((w.setCell ⟨b, i * 2, none⟩ (.string k)).setCell ⟨b, i * 2 + 1, none⟩ (.string v)) b n (upd X i (k, v)) := by
  obtain ⟨T, xs, h1, h2⟩ := h
  refine ⟨T, _, (h1.set _ _).set _ _, fun x hx => ?_⟩
  have hl0 := (List.getElem?_eq_some_iff.1 (h2 i hi).1).1
  have hl1 := (List.getElem?_eq_some_iff.1 (h2 i hi).2).1
  unfold upd
  by_cases e : x = i
  · subst e
    rw [if_pos rfl]
    constructor
    · rw [List.getElem?_set_ne (by omega)]; simp [hl0]
    · simp [hl1]
  · rw [if_neg e]
    constructor
    · rw [List.getElem?_set_ne (by omega), List.getElem?_set_ne (by omega)]; exact (h2 x hx).1
    · rw [List.getElem?_set_ne (by omega), List.getElem?_set_ne (by omega)]; exact (h2 x hx).2
theorem Ro.pr {w : World} {b n : Nat} {X : Nat → PB} (h : Ro w b n X) {m c : Nat} {l : List PB} (hl : l.length = m) (hm : m ≤ n) (hc : m ≤ c) (hc2 : c ≤ 9223372036854775807) (hX : ∀ x, x < m → pAtB l x = X x) (S : Nat → Prop) (hS : S b) : Pr w S (.slice (some ⟨b, 0, none⟩) m c) l := by
  subst hl
  obtain ⟨T, xs, h1, h2⟩ := h
  refine ⟨_, c, rfl, hc, hc2, fun h0 => ?_, fun h => by (cases h), fun hp => ⟨b, 0, rfl, h1.lt, hS, fun j u hu => ?_⟩⟩
  · have : l = [] := List.eq_nil_of_length_eq_zero h0
    rw [this]; rfl
  · have hj : j < l.length * 2 := by have := (List.getElem?_eq_some_iff.1 hu).1; rwa [pcs_length] at this
    rw [Nat.zero_add]
    have hx := pcs_at l (j / 2) (by omega)
    have hy := h2 (j / 2) (by omega)
    rw [← hX (j / 2) (by omega)] at hy
    rcases Nat.mod_two_eq_zero_or_one j with e | e
    · rw [show j / 2 * 2 = j by omega] at hx hy
      rw [hu] at hx
      rw [h1.cell hy.1, hx.1]
    · rw [show j / 2 * 2 + 1 = j by omega] at hx hy
      rw [hu] at hx
      rw [h1.cell hy.2, hx.2]
theorem Ow.ro {w : World} {base : Nat} {a : Option Addr} {n c : Nat} {l : List PB} (h : Ow w base (.slice a n c) l) (hp : 0 < n) : ∃ b, a = some ⟨b, 0, none⟩ ∧ base ≤ b ∧ n = l.length ∧ n ≤ c ∧ c ≤ 9223372036854775807 ∧ Ro w b n (pAtB l) := by
  rcases h.2 with ⟨e, h0⟩ | ⟨g, cap, cur, e, h3, h4, h5, h6, h7, h8⟩
  · cases e; omega
  · cases e
    refine ⟨g, rfl, h3, rfl, h5, by unfold maxLen at h6; omega, ?_⟩
    refine ⟨_, cur.toList, by show _ = _; simpa using h4, fun x hx => ?_⟩
    obtain ⟨h1, h2⟩ := pcs_at l x hx
    rw [← h8] at h1 h2
    rw [List.getElem?_take] at h1 h2
    split at h1 <;> split at h2 <;> simp_all
theorem only_sets {R : Nat → Prop} {b : Nat} (h : R b) : ∀ (vs : List Value) (o : Nat) (w : World), Only R w (w.setCells b o vs)
  | [], _, w => Only.refl _ _
  | v :: vs, o, w => by
    rw [World.setCells]
    exact (only_set h v).trans (only_sets h vs (o + 1) _)
theorem bk_sets {b : Nat} {T : TypeId} : ∀ (vs : List Value) (o : Nat) (w : World) (xs : List Value), Bk w b T xs → ∃ ys, Bk (w.setCells b o vs) b T ys ∧ ys.length = xs.length ∧ ∀ x, x < o → ys[x]? = xs[x]?
  | [], _, w, xs, h => ⟨xs, h, rfl, fun _ _ => rfl⟩
  | v :: vs, o, w, xs, h => by
    obtain ⟨ys, h1, h2, h3⟩ := bk_sets vs (o + 1) _ _ (h.set o v)
    refine ⟨ys, h1, by rw [h2, List.length_set], fun x hx => ?_⟩
    rw [h3 x (by omega), List.getElem?_set_ne (by omega)]
theorem Ro.sets {w : World} {b n : Nat} {X : Nat → PB} (h : Ro w b n X) {i : Nat} (hi : i ≤ n) (vs : List Value) : Ro (w.setCells b (i * 2) vs) b i X := by
  obtain ⟨T, xs, h1, h2⟩ := h
  obtain ⟨ys, h3, _, h4⟩ := bk_sets vs (i * 2) w xs h1
  refine ⟨T, ys, h3, fun x hx => ?_⟩
  rw [h4 _ (by omega), h4 _ (by omega)]
  exact h2 x (by omega)
theorem run_clear_pairs (ty : TypeId) (w : World) (b o n c : Nat) (hc : ∀ j, j < n * 2 → (w.cell? ⟨b, o + j, none⟩).isSome = true) (hf : ∀ j, j < n * 2 → w.frozen? ⟨b, o + j, none⟩ = false) :
    (Builtin.clear_ #[66] ty #[.slice (some ⟨b, o, none⟩) n c]).run Try.prog w = .ok (.tuple #[]) (w.setCells b o (List.replicate (n * 2) (.string ⟨#[]⟩))) := by
  have hv : (zeroValue 69).run Try.prog w = .ok (.agg #[.string ⟨#[]⟩, .string ⟨#[]⟩]) w := by go_simp
  have hzc : (Builtin.zeroCells (Value.agg #[.string ⟨#[]⟩, .string ⟨#[]⟩]).cells n).toList = List.replicate (n * 2) (.string ⟨#[]⟩) := by
    simp [Builtin.zeroCells, Value.cells]
    apply List.ext_getElem
    · simp
    · intro i h1 h2
      simp
      rcases Nat.mod_two_eq_zero_or_one i with e | e <;> simp [e]
  have hst := run_storeCells_cells (P := Try.prog) b o (List.replicate (n * 2) (.string ⟨#[]⟩)) 0 w (by simpa using hc) (by simpa using hf) (by intro v hv'; rw [List.eq_of_mem_replicate hv']; rfl)
  simp only [Nat.add_zero] at hst
  cases n with
  | zero => simp [Builtin.clear_, World.setCells, run_underlying Try.underlying66]
  | succ m => simp [Builtin.clear_, run_underlying Try.underlying66, hv, hzc, hst]
set_option maxHeartbeats 1000000 in
theorem scan1_any (rb : Nat) (lo hi k v : ByteArray) (w : World) (hR : Bk w rb 29 [.string lo, .string hi]) :
    Calls Try.prog 105 #[.agg #[.string k, .string v], .pointer (some ⟨rb, 0, none⟩)] w fun e w' => e = .returned (.bool (!rHas lo hi k)) ∧ Below w.heap.size w w' := by
  have HB0 := hid (below_new (o := .cells #[.string k, .string v] 69) (w := w) (Below.refl _ _))
  have KR := hid (hR.below HB0.out)
  have KP := hid (Bk.new w 69 [.string k, .string v])
  have r0 := KR.out.cell (j := 0) rfl
  have r1 := KR.out.cell (j := 1) rfl
  have p0 := KP.out.cell (j := 0) rfl
  have HRH := hid (fun v => implRangeHas_any lo hi k v)
  simp only [rng] at HRH
  clear hR
  go_enter Try.func105, Try.ntmps105
  go_wp2_with fail
  refine (HRH.out _).mono ?_
  rintro e w1 ⟨rfl, hb⟩
  have HB1 := hid (Below.then' HB0.out hb (Nat.le_refl _))
  clear hb r0 r1 p0
  generalize hz : rHas lo hi k = z
  have HZ := hid hz
  clear hz
  go_wp2
  go_ret
  exact ⟨by rw [HZ.out]; rfl, HB1.out⟩
set_option maxHeartbeats 1000000 in
theorem idxF_any (S : Nat → Prop) (a : Option Addr) (n c rb : Nat) (l : List PB) (lo hi : ByteArray) (w : World) (h : Pr w S (.slice a n c) l) (hR : Bk w rb 29 [.string lo, .string hi]) (hn : n ≤ 1048576) :
    Calls Try.prog 127 #[.slice a n c, .func (.func 105) #[] #[.pointer (some ⟨rb, 0, none⟩)]] w fun e w' =>
      (∃ r : Int, e = .returned (.int .i64 r) ∧ ((r = -1 ∧ ∀ x, x < n → rHas lo hi (pAtB l x).1 = true) ∨ ∃ i : Nat, i < n ∧ r = i ∧ rHas lo hi (pAtB l i).1 = false ∧ ∀ x, x < i → rHas lo hi (pAtB l x).1 = true)) ∧ Below w.heap.size w w' := by
  have HN := hid (Rw.len h).1
  have hnc := (Rw.len h).2
  have H0 := hid h
  have KR := hid hR
  clear h hR
  go_enter Try.func127, Try.ntmps127
  go_wp2_with fail
  go_loopw [8] (fun x wr => ∃ j : Nat, x = .int .i64 j ∧ j ≤ n ∧ Hid (∀ x, x < j → rHas lo hi (pAtB l x).1 = true) ∧ Hid (Below w.heap.size w wr)) (fun x _ => n - (intOf x).toNat)
  case atStart => exact ⟨0, rfl, Nat.zero_le _, fun x h => absurd h (Nat.not_lt_zero _), Below.refl _ _⟩
  case round =>
    obtain ⟨j, rfl, hj, HA, HB⟩ := hrel
    by_cases hlt : j < n
    · have hlt' : (j : Int) < (n : Int) := by omega
      have hj0 : (0 : Int) ≤ (j : Int) := by omega
      have hp := H0.out.below HB.out
      obtain ⟨b, off, hab, _, _, _⟩ := Rw.at hp (by omega)
      subst hab
      obtain ⟨d0, d1⟩ := Pr.cells hp (i := j) (by have := HN.out; omega)
      clear hp
      go_wp2_with fail
      refine (scan1_any rb lo hi _ _ wr (KR.out.below HB.out)).mono ?_
      rintro e w1 ⟨rfl, hb⟩
      have HB1 := hid (Below.then' HB.out hb (Nat.le_refl _))
      clear hb d0 d1
      cases hh : rHas lo hi (pAtB l j).1 with
      | false =>
        have HR := hid hh
        clear hh
        go_wp2
        go_ret
        exact ⟨⟨j, rfl, .inr ⟨j, hlt, rfl, HR.out, HA.out⟩⟩, HB1.out⟩
      | true =>
        have HA1 : Hid (∀ x, x < j + 1 → rHas lo hi (pAtB l x).1 = true) := fun x hx => by
          by_cases e : x = j
          · subst e; exact hh
          · exact HA.out x (by omega)
        clear hh
        go_wp2
        go_roundw
        case rel => exact ⟨j + 1, by go_num, by omega, HA1.out, HB1.out⟩
        case measure => simp [intOf]; omega
    · have hlt' : ¬ (j : Int) < (n : Int) := by omega
      have hjn : j = n := by omega
      subst hjn
      go_wp2
      go_ret
      exact ⟨⟨-1, rfl, .inl ⟨rfl, HA.out⟩⟩, HB.out⟩
end Go.Proofs.Ytbaggkfgnjenoaa

