/-
  slices.DeleteFunc over pairs, with the scan's function; slices.Reverse of pairs.
-/
import Derived.Test.YtbaggkfgnjenoaaDf
namespace Go.Proofs.Ytbaggkfgnjenoaa
open Go.RowKit
/-- The slice value v is a row of its own, from its first place on, that may be written and holds f. -/
def Rp (w : World) (base : Nat) (v : Value) (f : List PB) : Prop := ∃ a m c, v = .slice a m c ∧ m = f.length ∧ m ≤ c ∧ c ≤ 9223372036854775807 ∧ (a = none → c = 0) ∧ (0 < m → ∃ b, a = some ⟨b, 0, none⟩ ∧ base ≤ b ∧ Ro w b m (pAtB f))
theorem Ow.rp {w : World} {base : Nat} {v : Value} {l : List PB} (h : Ow w base v l) : Rp w base v l := by
  obtain ⟨a, n, c, rfl, hn⟩ := h.shape'
  have hlen := Rw.len (h.pr (S := fun _ => True) (fun _ _ _ _ => trivial))
  refine ⟨a, n, c, rfl, hn.out, hlen.2.1, hlen.2.2, ?_, fun hp => ?_⟩
  · rintro rfl
    obtain ⟨a', c', e, _, _, _, h5, _⟩ := h.pr (S := fun _ => True) (fun _ _ _ _ => trivial)
    cases e
    exact h5 rfl
  · obtain ⟨b, h1, h2, _, _, _, h3⟩ := h.ro hp
    exact ⟨b, h1, h2, h3⟩
theorem Rp.pr {w : World} {base : Nat} {v : Value} {f : List PB} (h : Rp w base v f) : Pr w (fun b => base ≤ b ∧ Uf w b) v f := by
  obtain ⟨a, m, c, rfl, h1, h2, h3, h4, h5⟩ := h
  rcases Nat.eq_zero_or_pos m with h0 | hp
  · have : f = [] := List.eq_nil_of_length_eq_zero (by omega)
    subst this h0
    exact ⟨a, c, rfl, h2, h3, fun _ => rfl, h4, fun h => by simp at h⟩
  · obtain ⟨b, rfl, h6, h7⟩ := h5 hp
    exact h7.pr h1.symm (Nat.le_refl _) h2 h3 (fun _ _ => rfl) _ ⟨h6, h7.uf⟩
theorem Rp.below {w w' : World} {base : Nat} {v : Value} {f : List PB} (h : Rp w base v f) (hb : Below w.heap.size w w') : Rp w' base v f := by
  obtain ⟨a, m, c, rfl, h1, h2, h3, h4, h5⟩ := h
  refine ⟨a, m, c, rfl, h1, h2, h3, h4, fun hp => ?_⟩
  obtain ⟨b, h6, h7, h8⟩ := h5 hp
  exact ⟨b, h6, h7, h8.below hb⟩
def RpPost (base : Nat) (f : List PB) (w : World) (e : Ending) (w' : World) : Prop := ∃ a m c, e = .returned (.slice a m c) ∧ Rp w' base (.slice a m c) f ∧ Below base w w'
abbrev hasF (lo hi : ByteArray) (l : List PB) : List PB := l.filter fun p => rHas lo hi p.1
theorem hasF_step (lo hi : ByteArray) (l : List PB) (j : Nat) (h : j < l.length) : hasF lo hi (l.take (j + 1)) = if rHas lo hi (pAtB l j).1 = true then hasF lo hi (l.take j) ++ [pAtB l j] else hasF lo hi (l.take j) := by
  rw [List.take_succ_eq_append_getElem h, ← pAtB_lt h, hasF, List.filter_append]
  cases hh : rHas lo hi (pAtB l j).1 with
  | false => simp [hasF, hh]
  | true => simp [hasF, hh]
theorem hasF_le (lo hi : ByteArray) (l : List PB) (j : Nat) : (hasF lo hi (l.take j)).length ≤ j := Nat.le_trans (List.length_filter_le _ _) (by rw [List.length_take]; omega)
theorem hasF_all {lo hi : ByteArray} {l : List PB} {j : Nat} (hj : j ≤ l.length) (h : ∀ x, x < j → rHas lo hi (pAtB l x).1 = true) : hasF lo hi (l.take j) = l.take j := by
  rw [hasF, List.filter_eq_self]
  intro p hp
  obtain ⟨i, hi, rfl⟩ := List.mem_iff_getElem.1 hp
  have hi' : i < j := by rw [List.length_take] at hi; omega
  have := h i hi'
  rw [pAtB_lt (by omega)] at this
  rw [List.getElem_take]
  exact this
theorem pAtB_take {l : List PB} {j x : Nat} (h : x < j) : pAtB (l.take j) x = pAtB l x := by simp [pAtB, h]
theorem pAtB_snoc {l : List PB} {p : PB} {x : Nat} (h : x < l.length) : pAtB (l ++ [p]) x = pAtB l x := by simp [pAtB, List.getElem?_append_left h]
theorem pAtB_snoc' {l : List PB} {p : PB} : pAtB (l ++ [p]) l.length = p := by simp [pAtB]
set_option maxHeartbeats 4000000 in
set_option maxRecDepth 20000 in
theorem delF_any (a : Option Addr) (n c rb base : Nat) (l : List PB) (lo hi : ByteArray) (w : World) (hO : Ow w base (.slice a n c) l) (hbase : base ≤ w.heap.size) (hR : Bk w rb 29 [.string lo, .string hi]) (hrb : ∀ b, a = some ⟨b, 0, none⟩ → rb ≠ b) (hn : n ≤ 200) :
    Calls Try.prog 104 #[.slice a n c, .func (.func 105) #[] #[.pointer (some ⟨rb, 0, none⟩)]] w fun e w' => RpPost base (hasF lo hi l) w e w' := by
  have HO := hid hO
  have KR := hid hR
  have HBS := hid (And.intro hbase hrb)
  have hlen := Rw.len (hO.pr (S := fun _ => True) (fun _ _ _ _ => trivial))
  have HN := hid hlen.1
  have hnc := hlen.2
  clear hO hR hlen hbase hrb
  go_enter Try.func104, Try.ntmps104
  go_wp2_with fail
  refine (idxF_any (fun _ => True) a n c rb l lo hi w (HO.out.pr (fun _ _ _ _ => trivial)) KR.out (by omega)).mono ?_
  rintro e w1 ⟨⟨r, rfl, hr⟩, hb⟩
  have HO1 := hid (HO.out.kept hb)
  have KR1 := hid (KR.out.below hb)
  have HB1 : Hid (Below base w w1) := hb.mono HBS.out.1
  have HW0 : Hid (base ≤ w.heap.size) := HBS.out.1
  have HBS1 : Hid (base ≤ w1.heap.size ∧ ∀ b, a = some ⟨b, 0, none⟩ → rb ≠ b) := ⟨Nat.le_trans HBS.out.1 hb.size, HBS.out.2⟩
  clear hb HO KR HBS
  rcases hr with ⟨rfl, hall⟩ | ⟨i0, hi0, rfl, hno, hall⟩
  · have HE : Hid (hasF lo hi l = l) := by
      have := hasF_all (j := l.length) (lo := lo) (hi := hi) (Nat.le_refl _) (fun x hx => hall x (by rw [HN.out]; exact hx))
      rwa [List.take_length] at this
    clear hall
    go_wp2
    go_ret
    exact ⟨a, n, c, rfl, by rw [HE.out]; exact HO1.out.rp, HB1.out⟩
  · obtain ⟨b, rfl, hb1, -, -, -, hro⟩ := HO1.out.ro (by omega)
    have HBB : Hid (base ≤ b ∧ rb ≠ b) := ⟨hb1, HBS1.out.2 b rfl⟩
    have HRO := hid hro
    have HF0 : Hid (hasF lo hi (l.take (i0 + 1)) = l.take i0) := by
      show _ = _
      rw [hasF_step lo hi l i0 (by have := HN.out; omega), hno, if_neg (by simp), hasF_all (by have := HN.out; omega) hall]
    have hne : ((i0 : Int) == -1) = false := by simp
    clear hall hno hro HO1 hb1
    go_wp2_with fail
    go_loopw [5, 6] (fun x y wr => ∃ (i j : Nat) (X : Nat → PB), x = .int .i64 i ∧ y = .int .i64 j ∧ i < j ∧ j ≤ n ∧ Hid (i = (hasF lo hi (l.take j)).length) ∧ Hid (Ro wr b n X) ∧ Hid ((∀ x, x < i → X x = pAtB (hasF lo hi (l.take j)) x) ∧ ∀ x, j ≤ x → x < n → X x = pAtB l x) ∧ Hid (Bk wr rb 29 [.string lo, .string hi]) ∧ Hid (Below base w wr)) (fun _ y _ => n - (intOf y).toNat)
    case atStart =>
      refine ⟨i0, i0 + 1, pAtB l, rfl, by go_num, by omega, by omega, ?_, HRO.out, ⟨fun x hx => ?_, fun x _ _ => rfl⟩, KR1.out, HB1.out⟩
      · show _ = _; rw [HF0.out, List.length_take]; have := HN.out; omega
      · rw [HF0.out, pAtB_take hx]
    case round =>
      obtain ⟨i, j, X, rfl, rfl, hij, hjn, HI, HR2, HX, KR2, HB2⟩ := hrel
      by_cases hlt : j < n
      · have hlt' : (j : Int) < (n : Int) := by omega
        have hj0 : (0 : Int) ≤ (j : Int) := by omega
        obtain ⟨d0, d1, _, _⟩ := HR2.out.cell hlt
        rw [HX.out.2 j (Nat.le_refl _) hlt] at d0 d1
        have hb := below_new (o := .cells #[.string (pAtB l j).1, .string (pAtB l j).2] 69) (w := wr) (Below.refl _ _)
        have HR3 := hid (HR2.out.below hb)
        have KR3 := hid (KR2.out.below hb)
        have KP3 := hid (Bk.new wr 69 [.string (pAtB l j).1, .string (pAtB l j).2])
        have HB3 := hid (Below.then' HB2.out hb HW0.out)
        clear hb HR2 KR2 HB2
        have p0 := KP3.out.cell (j := 0) rfl
        have p1 := KP3.out.cell (j := 1) rfl
        go_wp2_with fail
        refine (scan1_any rb lo hi _ _ _ KR3.out).mono ?_
        have HST := hid (hasF_step lo hi l j (by have := HN.out; omega))
        generalize hpb : wr.heap.size = pb at *
        clear hpb
        generalize wr.alloc (.cells #[.string (pAtB l j).1, .string (pAtB l j).2] 69) = wp at *
        rintro e w3 ⟨rfl, hb⟩
        have HR4 := hid (HR3.out.below hb)
        have KR4 := hid (KR3.out.below hb)
        have KP4 := hid (KP3.out.below hb)
        have HB4 := hid (Below.then' HB3.out hb HW0.out)
        clear hb HR3 KR3 KP3 HB3 d0 d1 p0 p1
        cases hh : rHas lo hi (pAtB l j).1 with
        | false =>
          have HF1 : Hid (hasF lo hi (l.take (j + 1)) = hasF lo hi (l.take j)) := by have := HST.out; rw [hh] at this; show _ = _; simpa using this
          clear hh
          go_wp2
          go_roundw
          case rel => exact ⟨i, j + 1, X, rfl, by go_num, by omega, by omega, by rw [HF1.out]; exact HI.out, HR4.out, ⟨by rw [HF1.out]; exact HX.out.1, fun x h1 h2 => HX.out.2 x (by omega) h2⟩, KR4.out, HB4.out⟩
          case measure => simp [intOf]; omega
        | true =>
          have HF1 : Hid (hasF lo hi (l.take (j + 1)) = hasF lo hi (l.take j) ++ [pAtB l j]) := by have := HST.out; rw [hh] at this; show _ = _; simpa using this
          clear hh
          have hi' : (i : Int) < (n : Int) := by omega
          have p0 := KP4.out.cell (j := 0) rfl
          have p1 := KP4.out.cell (j := 1) rfl
          obtain ⟨d0, d1, f0, f1⟩ := HR4.out.cell (x := i) (by omega)
          generalize hX0 : X i = xi at *
          obtain ⟨x0, x1⟩ := xi
          simp only at d0 d1
          have HR5 := hid (HR4.out.set (i := i) (by omega) (pAtB l j).1 (pAtB l j).2)
          have hon : Only (fun y => y = b) w3 ((w3.setCell ⟨b, i * 2, none⟩ (.string (pAtB l j).1)).setCell ⟨b, i * 2 + 1, none⟩ (.string (pAtB l j).2)) := (only_set (R := fun y => y = b) rfl _).trans (only_set (R := fun y => y = b) rfl _)
          have KR5 := hid (KR4.out.to hon (by have := HBB.out; omega))
          have HB5 := hid (HB4.out.trans (hon.below (by have := HB4.out.size; have := HW0.out; omega) (fun y h1 h2 => by have := HBB.out; omega)))
          have HX5 : Hid ((∀ x, x < i + 1 → upd X i ((pAtB l j).1, (pAtB l j).2) x = pAtB (hasF lo hi (l.take j) ++ [pAtB l j]) x) ∧ ∀ x, j + 1 ≤ x → x < n → upd X i ((pAtB l j).1, (pAtB l j).2) x = pAtB l x) := by
            refine ⟨fun x hx => ?_, fun x h1 h2 => ?_⟩
            · unfold upd
              by_cases e : x = i
              · rw [if_pos e, e, HI.out, pAtB_snoc']
              · rw [if_neg e, pAtB_snoc (by rw [← HI.out]; omega)]
                exact HX.out.1 x (by omega)
            · unfold upd
              rw [if_neg (by omega)]
              exact HX.out.2 x (by omega) h2
          have HI5 : Hid (i + 1 = (hasF lo hi (l.take j) ++ [pAtB l j]).length) := by show _ = _; rw [List.length_append, ← HI.out]; rfl
          clear hon hX0
          generalize (pAtB l j).1 = kk at *
          generalize (pAtB l j).2 = vv at *
          go_wp2
          go_roundw
          case rel => exact ⟨i + 1, j + 1, _, by go_num, by go_num, by omega, by omega, by rw [HF1.out]; exact HI5.out, HR5.out, by rw [HF1.out]; exact HX5.out, KR5.out, HB5.out⟩
          case measure => simp [intOf]; omega
      · have hlt' : ¬ (j : Int) < (n : Int) := by omega
        have hjn' : j = n := by omega
        subst hjn'
        have HIN : Hid (hasF lo hi (l.take j) = hasF lo hi l) := by show _ = _; rw [HN.out, List.take_length]
        have hcl : ∀ ty, (Builtin.clear_ #[66] ty #[.slice (some ⟨b, i * 2, none⟩) (j - i) (c - i)]).run Try.prog wr = .ok (.tuple #[]) (wr.setCells b (i * 2) (List.replicate ((j - i) * 2) (.string ⟨#[]⟩))) := fun ty => by
          refine run_clear_pairs ty wr b (i * 2) (j - i) (c - i) (fun q hq => ?_) (fun q hq => ?_)
          · obtain ⟨d0, d1, _, _⟩ := HR2.out.cell (x := (i * 2 + q) / 2) (by omega)
            rcases Nat.mod_two_eq_zero_or_one (i * 2 + q) with e | e
            · rw [show (i * 2 + q) / 2 * 2 = i * 2 + q by omega] at d0; rw [d0]; rfl
            · rw [show (i * 2 + q) / 2 * 2 + 1 = i * 2 + q by omega] at d1; rw [d1]; rfl
          · obtain ⟨_, _, f0, f1⟩ := HR2.out.cell (x := (i * 2 + q) / 2) (by omega)
            rcases Nat.mod_two_eq_zero_or_one (i * 2 + q) with e | e
            · rw [show (i * 2 + q) / 2 * 2 = i * 2 + q by omega] at f0; exact f0
            · rw [show (i * 2 + q) / 2 * 2 + 1 = i * 2 + q by omega] at f1; exact f1
        have HR3 := hid (HR2.out.sets (i := i) (by omega) (List.replicate ((j - i) * 2) (.string ⟨#[]⟩)))
        have HB3 := hid (HB2.out.trans ((only_sets (R := fun y => y = b) rfl (List.replicate ((j - i) * 2) (.string ⟨#[]⟩)) (i * 2) wr).below (by have := HB2.out.size; have := HW0.out; omega) (fun y h1 h2 => by have := HBB.out; omega)))
        generalize wr.setCells b (i * 2) (List.replicate ((j - i) * 2) (.string ⟨#[]⟩)) = wz at *
        have hii : (i : Int) ≤ (j : Int) := by omega
        have hi0' : (0 : Int) ≤ (i : Int) := by omega
        have hic : (i : Int) ≤ (c : Int) := by omega
        go_wp2
        go_ret
        refine ⟨_, i, c, rfl, ⟨_, i, c, rfl, by rw [← HIN.out]; exact HI.out, by omega, by omega, fun h => by (cases h), fun _ => ⟨b, rfl, HBB.out.1, ?_⟩⟩, HB3.out⟩
        obtain ⟨T, xs, h1, h2⟩ := HR3.out
        refine ⟨T, xs, h1, fun x hx => ?_⟩
        rw [← HIN.out, ← HX.out.1 x hx]
        exact h2 x hx
end Go.Proofs.Ytbaggkfgnjenoaa

