/-
  The splits that the laws draw: some few strings.
-/
import Derived.Test.YtbfgjadonilonaaDrawA
import Derived.Test.YtbfgjadonilonaaStrs
import Derived.Test.YtbfgjadonilonaaStrL
import Derived.Deep.RegionHeld3
namespace Go.Proofs.Ytbfgjadonilonaa
open Go.RowKit
/-- The slice value v owns a row of its own, from block number B on, that holds the strings ss. -/
def Sw (w : World) (B : Nat) (v : Value) (ss : List ByteArray) : Prop := w.ownsRow B 9 1 v ss.length (ss.map Value.string)
theorem Sw.alloc {w : World} {B : Nat} {v : Value} {ss : List ByteArray} (h : Sw w B v ss) (o : Obj) : Sw (w.alloc o) B v ss := World.ownsRow.alloc h o
theorem Sw.grown {w w' : World} {B g : Nat} {v : Value} {ss : List ByteArray} (h : Sw w B v ss) (hg : w.grownBy w' (some g)) (hB : g < B) : Sw w' B v ss :=
  World.ownsRow.kept h hg (by
    cases hv : v.ownBlock with
    | none => exact .inl rfl
    | some k => exact .inr (fun e => by have := (World.ownsRow.lt h k hv).1; cases e; omega))
theorem Sw.below {w w' : World} {B : Nat} {v : Value} {ss : List ByteArray} (h : Sw w B v ss) (hb : Below w.heap.size w w') : Sw w' B v ss :=
  World.ownsRow.kept (row := none) h ⟨hb.os, hb.tape, hb.output, hb.size, fun k hk _ => hb.block k hk⟩ (by cases hv : v.ownBlock <;> simp)
theorem sw_new (w : World) (B : Nat) (hB : B ≤ w.heap.size) (g : Nat) (hg : w.heap.size = g) : Sw (w.alloc (.cells #[] 9)) B (.slice (some ⟨g, 0, none⟩) 0 0) [] := by
  subst hg
  exact ⟨rfl, .inr ⟨w.heap.size, 0, #[], rfl, hB, heap_alloc_new w _, Nat.le_refl _, by decide, rfl, rfl⟩⟩
theorem Sw.shape {w : World} {B : Nat} {v : Value} {ss : List ByteArray} (h : Sw w B v ss) : ∃ a c, v = .slice a ss.length c := by
  rcases h.2 with ⟨rfl, h0⟩ | ⟨g, cap, cur, rfl, _⟩
  · exact ⟨none, 0, by rw [h0]⟩
  · exact ⟨_, cap, rfl⟩
theorem Sw.sd {w : World} {B : Nat} {v : Value} {ss : List ByteArray} (h : Sw w B v ss) (hl : ∀ i : Nat, (ss[i]?.getD ⟨#[]⟩).size ≤ 17) : ∃ a c, v = .slice a ss.length c ∧ Sd w a ss.length c ss := by
  rcases h.2 with ⟨rfl, h0⟩ | ⟨g, cap, cur, rfl, hbg, hg, hnc, hcm, hcs, htake⟩
  · exact ⟨none, 0, by rw [h0], ⟨rfl, by omega, by omega, fun i => Nat.le_trans (hl i) (by omega), fun hp => by omega⟩⟩
  · refine ⟨some ⟨g, 0, none⟩, cap, rfl, ⟨rfl, hnc, hcm, fun i => Nat.le_trans (hl i) (by omega), fun _ => ⟨g, 0, rfl, (Array.getElem?_eq_some_iff.1 hg).1, fun i hi => ?_⟩⟩⟩
    have hc := World.ownsRow.cells h (g := g) rfl i (.string (ss[i]?.getD ⟨#[]⟩)) (by simp [hi])
    rw [Addr.add_lit] at hc
    exact hc
theorem Sw.lower {w : World} {B B' : Nat} {v : Value} {ss : List ByteArray} (h : Sw w B v ss) (hB : B' ≤ B) : Sw w B' v ss := by
  obtain ⟨h1, h2⟩ := h
  refine ⟨h1, ?_⟩
  rcases h2 with h | ⟨g, cap, cur, e, hb, rest⟩
  · exact .inl h
  · exact .inr ⟨g, cap, cur, e, Nat.le_trans hB hb, rest⟩
theorem Sw.set {w : World} {B b o : Nat} {v x : Value} {ss : List ByteArray} (h : Sw w B v ss) (hne : ∀ k, v.ownBlock = some k → k ≠ b) : Sw (w.setCell ⟨b, o, none⟩ x) B v ss :=
  World.ownsRow.kept h (grownBy_set (grownBy_same w (some b)) o x) (by
    cases hv : v.ownBlock with
    | none => exact .inl rfl
    | some k => exact .inr (fun e => by cases e; exact hne _ hv rfl))
theorem run_append_str {w : World} (ty : TypeId) (base : Nat) (v : Value) (ss : List ByteArray) (hown : Sw w base v ss) (g : Nat) (s : ByteArray)
    (c0 : w.cell? ⟨g, 0, none⟩ = some (.string s)) (hb : ss.length ≤ 1048577) (hbase : base ≤ w.heap.size) :
    ∃ v' w', (Builtin.append_ #[22, 22] ty #[v, .slice (some ⟨g, 0, none⟩) 1 1]).run Try.prog w = .ok v' w' ∧ Sw w' base v' (ss ++ [s]) ∧ w.grownBy w' v.ownBlock := by
  obtain ⟨i0, hi0, hz0, hz1, hz2⟩ := info_parts infoStr
  obtain ⟨v', w', hr, ho, hg, _⟩ := run_append_own (P := Try.prog) w base 22 ty 9 i0 (.string ⟨#[]⟩) 1 16 Try.underlying22 hi0 hz0 hz1 hz2 rfl (by decide) v ss.length (ss.map Value.string) hown ⟨g, 0, none⟩ 1 1 [.string s]
    rfl (by
      intro j u hu
      rw [Addr.add_lit]
      match j, hu with
      | 0, hu => cases hu; exact c0
      | j + 1, hu => cases hu) (by
      intro u hu
      simp at hu
      subst hu
      rfl) (by unfold maxLen; omega) (by omega) hbase
  refine ⟨v', w', hr, ?_, hg⟩
  unfold Sw
  rw [List.length_append, List.map_append]
  exact ho
theorem wpList_append_str {w : World} {ops : Array Oper} {rest : List Oper} {o : Oper} {a : Act} {Q : Exit → Act → World → Prop} (hgd : o.guard = none) (s x : Operand)
    (ho : o.op = .call { callee := .builtin .append, args := #[s, x], argTypes := #[22, 22] }) (base : Nat) (v : Value) (ss : List ByteArray) (hs : a.eval s = v) (hown : Sw w base v ss)
    (g : Nat) (t : ByteArray) (hx : a.eval x = .slice (some ⟨g, 0, none⟩) 1 1) (c0 : w.cell? ⟨g, 0, none⟩ = some (.string t))
    (hb : ss.length ≤ 1048577) (hbase : base ≤ w.heap.size)
    (h : ∀ v' w', Sw w' base v' (ss ++ [t]) → w.grownBy w' v.ownBlock → wpList Try.prog ops Q rest (a.put o.dst v') w') : wpList Try.prog ops Q (o :: rest) a w := by
  refine wpList_plain hgd fun K hK => ?_
  obtain ⟨v', w', hr, h2, h3⟩ := run_append_str (w := w) o.type base v ss hown g t c0 hb hbase
  unfold Oper.wp execOp
  simp only [ho, resolve, invoke, builtin, Sem.run_bind, Sem.run_pure, Result.andThen_ok, List.map_toArray, List.map_cons, List.map_nil, hs, hx, hr]
  exact hK _ _ (h v' w' h2 h3)
theorem size_snoc {ss : List ByteArray} {s : ByteArray} (h : ∀ i : Nat, (ss[i]?.getD ⟨#[]⟩).size ≤ 17) (hs : s.size ≤ 17) : ∀ i : Nat, ((ss ++ [s])[i]?.getD ⟨#[]⟩).size ≤ 17 := by
  intro i
  rcases Nat.lt_trichotomy i ss.length with h1 | h1 | h1
  · rw [List.getElem?_append_left h1]; exact h i
  · subst h1; simpa using hs
  · rw [List.getElem?_eq_none (by simp; omega)]; exact Nat.zero_le _
theorem grown_snoc {w w1 w2 : World} {g B : Nat} {v : Value} {ss : List ByteArray} (h : w.grownBy w1 (some g)) (ho : Sw w1 B v ss) (hB : w.heap.size ≤ B) (h2 : w1.grownBy w2 v.ownBlock) : w.grownBy w2 (some g) := by
  refine ⟨h2.os.trans h.os, h2.tape.trans h.tape, h2.output.trans h.output, Nat.le_trans h.size h2.size, fun k hk hne => ?_⟩
  rw [h2.block k (Nat.lt_of_lt_of_le hk h.size) (fun e => by have := (World.ownsRow.lt ho k e.symm).1; omega)]
  exact h.block k hk hne
theorem all_cell {w : World} {b : Nat} (h : w.heap[b]? = some (.cells #[.string ⟨#[98]⟩, .string ⟨#[100]⟩, .string ⟨#[104]⟩, .string ⟨#[109]⟩] 9 (0, 0))) (j : Nat) (hj : j < 4) : ∃ s : ByteArray, w.cell? ⟨b, j, none⟩ = some (.string s) ∧ s.size ≤ 17 := by
  rw [cell_of_row w b j _ _ _ h]
  match j, hj with
  | 0, _ => exact ⟨_, rfl, by decide⟩
  | 1, _ => exact ⟨_, rfl, by decide⟩
  | 2, _ => exact ⟨_, rfl, by decide⟩
  | 3, _ => exact ⟨_, rfl, by decide⟩
set_option maxHeartbeats 4000000 in
theorem splits_any (g : Nat) (w : World) (h : Cu w g) : Calls Try.prog 47 #[.pointer (some ⟨g, 0, none⟩)] w fun e w' => (∃ v ss, e = .returned v ∧ Sw w' w.heap.size v ss ∧ ss.length ≤ 3 ∧ ∀ i : Nat, (ss[i]?.getD ⟨#[]⟩).size ≤ 17) ∧ w.grownBy w' (some g) ∧ Cu w' g := by
  have HC := hid h
  have hlt := h.lt
  clear h
  have A0 := hid ((heap_alloc_old (w.alloc (.cells #[.string ⟨#[98]⟩, .string ⟨#[100]⟩, .string ⟨#[104]⟩, .string ⟨#[109]⟩] 9)) (.cells #[] 9) (r := w.heap.size) (by simp)).trans (heap_alloc_new w (.cells #[.string ⟨#[98]⟩, .string ⟨#[100]⟩, .string ⟨#[104]⟩, .string ⟨#[109]⟩] 9)))
  have S0 := hid (sw_new (w.alloc (.cells #[.string ⟨#[98]⟩, .string ⟨#[100]⟩, .string ⟨#[104]⟩, .string ⟨#[109]⟩] 9)) (w.heap.size + 1) (by simp) (w.heap.size + 1) (by simp))
  have G0 := hid (grownBy_trans (grownBy_alloc w (.cells #[.string ⟨#[98]⟩, .string ⟨#[100]⟩, .string ⟨#[104]⟩, .string ⟨#[109]⟩] 9) (some g)) (grownBy_alloc _ (.cells #[] 9) (some g)))
  have C0 := hid ((HC.out.alloc (.cells #[.string ⟨#[98]⟩, .string ⟨#[100]⟩, .string ⟨#[104]⟩, .string ⟨#[109]⟩] 9)).alloc (.cells #[] 9))
  clear HC
  go_enter Try.func47, Try.ntmps47
  go_wp2_with fail
  generalize (w.alloc (.cells #[.string ⟨#[98]⟩, .string ⟨#[100]⟩, .string ⟨#[104]⟩, .string ⟨#[109]⟩] 9)).alloc (.cells #[] 9) = u at *
  go_loopw [4, 6, 11] (fun v x i wr => ∃ (j : Nat) (ss : List ByteArray), i = .int .i64 j ∧ j ≤ 4 ∧ ss.length ≤ 3 ∧ Hid (Sw wr (w.heap.size + 1) v ss) ∧ Hid (∀ i : Nat, (ss[i]?.getD ⟨#[]⟩).size ≤ 17) ∧ Hid (wr.heap[w.heap.size]? = some (.cells #[.string ⟨#[98]⟩, .string ⟨#[100]⟩, .string ⟨#[104]⟩, .string ⟨#[109]⟩] 9 (0, 0))) ∧ Hid (w.grownBy wr (some g)) ∧ Hid (Cu wr g)) (fun _ _ i _ => 4 - (intOf i).toNat)
  case atStart => exact ⟨0, [], rfl, by omega, by simp, S0.out, fun i => by simp; decide, A0.out, G0.out, C0.out⟩
  case round =>
    obtain ⟨j, ss, rfl, hj, hsl, HS, HL, HA, HG, HC⟩ := hrel
    obtain ⟨a, c, rfl⟩ := HS.out.shape
    by_cases hj4 : j < 4
    · have hj' : (j : Int) < 4 := by omega
      have hj0 : (0 : Int) ≤ (j : Int) := by omega
      obtain ⟨s, hc, hs⟩ := all_cell HA.out j hj4
      by_cases h3 : ss.length < 3
      · have h3' : (ss.length : Int) < 3 := by omega
        go_wp2_with fail
        refine (below_any g 2 _ HC.out (by omega) (by omega)).mono ?_
        rintro e w2 ⟨⟨y, rfl, hy0, hy1⟩, hg2, hc2⟩
        have HS2 := hid (HS.out.grown hg2 (by omega))
        have HA2 := hid ((hg2.block w.heap.size (Array.getElem?_eq_some_iff.1 HA.out).1 (fun e => by cases e; omega)).trans HA.out)
        have HG2 := hid (grownBy_trans HG.out hg2)
        have HC2 := hid hc2
        clear hg2 hc2 HS HA HG HC hc
        by_cases hy : y = 0
        · subst hy
          clear hy0 hy1
          go_wp2_with (at_builtin; refine wpList_append_str rfl _ _ rfl (w.heap.size + 1) _ ss rfl (HS2.out.alloc _) w2.heap.size s rfl ?c0 ?b ?base ?_)
          case c0 => go_simp
          case b => omega
          case base => have := (Array.getElem?_eq_some_iff.1 HA2.out).1; simp; omega
          intro v3 w3 hs3 hg3
          have HS3 := hid hs3
          have HG3 := hid (grown_snoc (grownBy_trans HG2.out (grownBy_alloc _ _ _)) (HS2.out.alloc _) (Nat.le_succ _) hg3)
          have HA3 : Hid (w3.heap[w.heap.size]? = some (.cells #[.string ⟨#[98]⟩, .string ⟨#[100]⟩, .string ⟨#[104]⟩, .string ⟨#[109]⟩] 9 (0, 0))) := by
            have hl := (Array.getElem?_eq_some_iff.1 HA2.out).1
            refine (hg3.block w.heap.size (by simp; omega) (fun e => ?_)).trans ((heap_alloc_old _ _ hl).trans HA2.out)
            have := (World.ownsRow.lt (HS2.out.alloc (.cells #[.string s] 9)) _ e.symm).1
            omega
          have HC3 := hid ((HC2.out.alloc (.cells #[.string s] 9)).kept hg3 (fun k e => by have := (World.ownsRow.lt HS2.out k e).1; omega))
          clear hs3 hg3
          go_wp2
          go_roundw
          case rel => exact ⟨j + 1, ss ++ [s], by go_num, by omega, by simp; omega, HS3.out, size_snoc HL.out hs, HA3.out, HG3.out, HC3.out⟩
          case measure => simp [intOf]; omega
        · have hy' : (y == 0) = false := by simp [hy]
          go_wp2
          go_roundw
          case rel => exact ⟨j + 1, ss, by go_num, by omega, hsl, HS2.out, HL.out, HA2.out, HG2.out, HC2.out⟩
          case measure => simp [intOf]; omega
      · have h3' : ¬ (ss.length : Int) < 3 := by omega
        go_wp2
        go_roundw
        case rel => exact ⟨j + 1, ss, by go_num, by omega, hsl, HS.out, HL.out, HA.out, HG.out, HC.out⟩
        case measure => simp [intOf]; omega
    · have hj' : ¬ (j : Int) < 4 := by omega
      go_wp2
      go_ret
      exact ⟨⟨_, rfl, ss, HS.out.lower (Nat.le_succ _), hsl, HL.out⟩, HG.out, HC.out⟩
set_option maxHeartbeats 4000000 in
theorem anySplits_any (g : Nat) (w : World) (h : Cu w g) : Calls Try.prog 39 #[.pointer (some ⟨g, 0, none⟩)] w fun e w' => (∃ v ss, e = .returned v ∧ Sw w' w.heap.size v ss ∧ ss.length ≤ 4 ∧ ∀ i : Nat, (ss[i]?.getD ⟨#[]⟩).size ≤ 17) ∧ w.grownBy w' (some g) ∧ Cu w' g := by
  have HC := hid h
  have hlt := h.lt
  clear h
  go_enter Try.func39, Try.ntmps39
  go_wp2_with fail
  refine (splits_any g _ HC.out).mono ?_
  rintro e w1 ⟨⟨v, ss, rfl, hs1, hl, hz⟩, hg1, hc1⟩
  have HS1 := hid hs1
  have HL := hid hz
  have HG1 := hid hg1
  have HC1 := hid hc1
  clear hs1 hz hg1 hc1 HC
  go_wp2_with fail
  refine (below_any g 8 _ HC1.out (by omega) (by omega)).mono ?_
  rintro e w2 ⟨⟨x, rfl, hx0, hx1⟩, hg2, hc2⟩
  have HS2 := hid (HS1.out.grown hg2 hlt)
  have HG2 := hid (grownBy_trans HG1.out hg2)
  have HC2 := hid hc2
  clear hg2 hc2 HS1 HG1 HC1
  by_cases hx : x = 0
  · subst hx
    clear hx0 hx1
    go_wp2_with fail
    refine (anyKey_any g _ HC2.out).mono ?_
    rintro e w3 ⟨⟨s, rfl, hs⟩, hg3, hc3⟩
    have HS3 := hid (HS2.out.grown hg3 hlt)
    have HG3 := hid (grownBy_trans HG2.out hg3)
    have HC3 := hid hc3
    clear hg3 hc3 HS2 HG2 HC2
    go_wp2_with (at_builtin; refine wpList_append_str rfl _ _ rfl w.heap.size _ ss rfl (HS3.out.alloc _) w3.heap.size s rfl ?c0 ?b ?base ?_)
    case c0 => go_simp
    case b => omega
    case base => have := HG3.out.size; simp; omega
    intro v4 w4 hs4 hg4
    have HS4 := hid hs4
    have HG4 := hid (grown_snoc (grownBy_trans HG3.out (grownBy_alloc _ _ _)) (HS3.out.alloc _) (Nat.le_refl _) hg4)
    have HC4 := hid ((HC3.out.alloc (.cells #[.string s] 9)).kept hg4 (fun k e => by have := (World.ownsRow.lt HS3.out k e).1; omega))
    clear hs4 hg4
    go_wp2
    go_ret
    exact ⟨⟨_, ss ++ [s], rfl, HS4.out, by simp; omega, size_snoc HL.out hs⟩, HG4.out, HC4.out⟩
  · have hx' : (x == 0) = false := by simp [hx]
    go_wp2
    go_ret
    exact ⟨⟨_, ss, rfl, HS2.out, by omega, HL.out⟩, HG2.out, HC2.out⟩
set_option maxHeartbeats 4000000 in
theorem drawRoute_any (a : Option Addr) (n c : Nat) (zs : List Int) (w : World) (h : Rd w a n c zs) (hl : n ≤ 1048576) :
    Calls Try.prog 26 #[.slice a n c] w fun e w' => (∃ v ss k, e = .returned (.tuple #[v, .string k]) ∧ Sw w' w.heap.size v ss ∧ ss.length ≤ 4 ∧ ∀ i : Nat, (ss[i]?.getD ⟨#[]⟩).size ≤ 17) ∧ Below w.heap.size w w' := by
  have HR := hid h
  clear h
  go_enter Try.func26, Try.ntmps26
  go_wp2_with fail
  refine (new_any a n c zs _ HR.out hl).mono ?_
  rintro e w1 ⟨rfl, hb1, hc1⟩
  have HB1 := hid hb1
  have HC1 := hid hc1
  have HZ : Hid (w.heap.size ≤ w1.heap.size) := hb1.size
  clear hb1 hc1 HR
  obtain ⟨g, hg⟩ : ∃ g, g = w.heap.size := ⟨_, rfl⟩
  rw [← hg] at HC1 ⊢
  have HGg := hid hg
  clear hg
  go_wp2_with fail
  refine (anySplits_any g _ HC1.out).mono ?_
  rintro e w2 ⟨⟨v, ss, rfl, hs1, hl1, hz⟩, hg1, hc1⟩
  have HB2 := hid (HB1.out.trans ((below_of_grown hg1 HC1.out.lt).mono (Nat.le_of_eq HGg.out.symm)))
  have HS2 := hid hs1
  have HL := hid hz
  have HC2 := hid hc1
  have HZ2 := hid HC1.out.lt
  clear hs1 hz hg1 hc1 HB1 HC1
  go_wp2_with fail
  refine (anyKey_any g _ HC2.out).mono ?_
  rintro e w3 ⟨⟨k, rfl, hk⟩, hg1, hc1⟩
  have HB3 := hid (HB2.out.trans ((below_of_grown hg1 HC2.out.lt).mono (Nat.le_of_eq HGg.out.symm)))
  have HS3 := hid ((HS2.out.grown hg1 HZ2.out).lower HZ.out)
  clear hg1 hc1 HB2 HC2 HS2
  go_wp2
  go_ret2
  exact ⟨⟨_, ss, _, rfl, HS3.out, hl1, HL.out⟩, HB3.out⟩
theorem results_tmp_rng {fn : Func} {p u : Tmp} (h : fn.results = #[.tmp u, .cell p 30]) (tmps : Array Value) (w : World) (g : Nat) {lo hi : ByteArray} {b : Value} (hp : tmps.getD p undef = .pointer (some ⟨g, 0, none⟩)) (hb : tmps.getD u undef = b)
    (c0 : w.cell? ⟨g, 0, none⟩ = some (.string lo)) (c1 : w.cell? ⟨g, 1, none⟩ = some (.string hi)) : (results fn tmps).run Try.prog w = .ok (.tuple #[b, rng lo hi]) w := by
  have hp' : tmps[p]?.getD undef = .pointer (some ⟨g, 0, none⟩) := by simpa using hp
  have hb' : tmps[u]?.getD undef = b := by simpa using hb
  simp [results, h, hp', hb', asAddr, load_rng c0 c1]
set_option maxHeartbeats 4000000 in
theorem drawCut_any (a : Option Addr) (n c : Nat) (zs : List Int) (w : World) (h : Rd w a n c zs) (hl : n ≤ 1048576) :
    Calls Try.prog 28 #[.slice a n c] w fun e w' => (∃ v ss lo hi, e = .returned (.tuple #[v, .agg #[.string lo, .string hi]]) ∧ Sw w' w.heap.size v ss ∧ ss.length ≤ 4 ∧ ∀ i : Nat, (ss[i]?.getD ⟨#[]⟩).size ≤ 17) ∧ Below w.heap.size w w' := by
  have B0 := hid (below_alloc w (.cells #[.string ⟨#[]⟩, .string ⟨#[]⟩] 30))
  have k0 := hid (Blk.new w ⟨#[]⟩ ⟨#[]⟩)
  have HR := hid (h.kept (below_alloc w (.cells #[.string ⟨#[]⟩, .string ⟨#[]⟩] 30)))
  clear h
  go_enter Try.func28, Try.ntmps28
  go_wp2_with fail
  refine (new_any a n c zs _ HR.out hl).mono ?_
  generalize w.alloc (.cells #[.string ⟨#[]⟩, .string ⟨#[]⟩] 30) = w0 at *
  rintro e w1 ⟨rfl, hb1, hc1⟩
  have R := hid (R1.new B0.out k0.out (Nat.le_refl _) hb1 hc1)
  clear hb1 hc1 k0 B0 HR
  generalize w0.heap.size = g at *
  clear w0
  go_wp2_with fail
  refine (anySplits_any g _ R.out.cu).mono ?_
  rintro e w2 ⟨⟨v, ss, rfl, hs1, hl1, hz⟩, hg1, hc1⟩
  have S := hid (R.out.step hg1 hc1)
  have HS := hid hs1
  have HL := hid hz
  have HZ := hid R.out.cu.lt
  have HZ1 := hid R.out.bel.size
  clear hg1 hc1 R hs1 hz
  go_wp2_with fail
  refine (anyRange_any g _ S.out.cu).mono ?_
  rintro e w3 ⟨⟨lo, hi, rfl⟩, hg1, hc1⟩
  have T := hid ((S.out.step hg1 hc1).alloc (.cells #[.string lo, .string hi] 30))
  have HS3 := hid (((HS.out.grown hg1 HZ.out).lower HZ1.out).alloc (.cells #[.string lo, .string hi] 30))
  have L := hid (Blk.new w3 lo hi)
  have n2 : ¬ w.heap.size = w3.heap.size := by have := (S.out.step hg1 hc1).ng; have := hc1.lt; omega
  have HO := hid (fun k hk => (World.ownsRow.lt HS.out k hk).1)
  clear hg1 hc1 S HS
  obtain ⟨r0, r1, r2, r3⟩ := T.out.bk.facts
  obtain ⟨l0, l1, _, _⟩ := L.out.facts
  have m2 := Ne.symm n2
  go_wp2_with fail
  go_region_held3 (fun v => v.cell? ⟨w3.heap.size, 0, none⟩ = some (.string lo) ∧ v.cell? ⟨w3.heap.size, 1, none⟩ = some (.string hi))
    (first | assumption | (refine ⟨?_, ?_⟩ <;> go_simp))
    (first | fail)
  go_wp2
  try simp only [Exit.inBlock, Exit.then]
  refine bodyPost_ret (v := .tuple #[v, rng lo hi]) ?_ rfl ?_
  · exact results_tmp_rng rfl _ _ _ rfl rfl (by go_simp) (by go_simp)
  · have hne : ∀ k, v.ownBlock = some k → k ≠ w.heap.size := fun k hk => by have := HO.out k hk; have := HZ.out; have := T.out.ng; omega
    exact ⟨⟨_, ss, _, _, rfl, ((HS3.out.set hne).set hne).below (below_drew _), hl1, HL.out⟩, thn2 ((T.out.bel.setCell (p := ⟨w.heap.size, 0, none⟩) (Nat.le_refl _) _).setCell (p := ⟨w.heap.size, 1, none⟩) (Nat.le_refl _) _) (below_drew _)⟩
end Go.Proofs.Ytbfgjadonilonaa
