/-
  The built-in append, onto a slice of bytes that the call owns, from any slice of bytes, the nil one too: it owns both behind it.
-/
import Derived.Test.YtpgogpphobafoaaDoorMr1
import Derived.Deep.AppendSrc
import Derived.RowKit
import Derived.Laws.IdiomStrings
import Derived.Maps.AppendAt
namespace Go.Proofs.YtpgogpphobafoaaDoor
open Go.RowKit

/-- The slice value v owns a row of its own, from block number B on, whose first bytes are zs. -/
def Ob (w : World) (B : Nat) (v : Value) (zs : List Int) : Prop := w.ownsRow B 5 1 v zs.length (zs.map (Value.int .u8))

theorem run_append_own_nil {P : Program} {w : World} {base : Nat} {t ty e : TypeId} {i : TypeInfo} (ht : P.underlying t = some (.slice e)) (hi : P.info? e = some i)
    {v : Value} {n : Nat} {xs : List Value} (hown : w.ownsRow base e 1 v n xs) (c : Nat) :
    (Builtin.append_ #[t, t] ty #[v, .slice none 0 c]).run P w = .ok v w := by
  rcases hown.2 with ⟨rfl, rfl⟩ | ⟨g, cap, cur, rfl, hbg, hg, hnc, hcm, hcs, htake⟩
  · simp [Builtin.append_, run_underlying ht, sizeOf, typeInfo, hi, Builtin.lenOf, Builtin.firstCells]
  · have hr := run_append_room_src (P := P) w t t ty e i ht hi g 0 n cap (.slice none 0 c) 0 [] (Src.ofNil w ht c) (by omega) (by intro j hj; simp at hj) (by intro j hj; simp at hj)
    rw [hr]
    rfl

theorem run_append_rd {w : World} (ty : TypeId) (base : Nat) (v : Value) (zs : List Int) (hown : Ob w base v zs) (ao : Option Addr) (m c : Nat) (ys : List Int) (hsrc : Rd w ao m c ys)
    (hb : zs.length + ys.length ≤ 70368744177664) (hbase : base ≤ w.heap.size) :
    ∃ v' w', (Builtin.append_ #[27, 27] ty #[v, .slice ao m c]).run Tryd.prog w = .ok v' w' ∧ Ob w' base v' (zs ++ ys) ∧ w.grownBy w' v.ownBlock := by
  obtain ⟨i0, hi, hz0, hz1, hz2⟩ := info_parts infoU8
  obtain ⟨h1, h2, h3, h30, h4, h5⟩ := hsrc
  cases ao with
  | none =>
    have hm : m = 0 := by
      rcases Nat.eq_zero_or_pos m with h | h
      · exact h
      · obtain ⟨b, off, e, _⟩ := h5 h
        cases e
    subst hm
    have hy : ys = [] := List.eq_nil_of_length_eq_zero h1.symm
    subst hy
    exact ⟨v, w, run_append_own_nil Tryd.underlying27 hi hown c, by simpa using hown, ⟨rfl, rfl, rfl, Nat.le_refl _, fun _ _ _ => rfl⟩⟩
  | some ad =>
    obtain ⟨v', w', hr, ho, hg, _⟩ := run_append_own (P := Tryd.prog) w base 27 ty 5 i0 (.int .u8 0) 1 1 Tryd.underlying27 hi hz0 hz1 hz2 rfl (by decide) v zs.length (zs.map (Value.int .u8)) hown ad m c (ys.map (Value.int .u8))
      (by simp [h1]) (by
        intro j u hu
        have hj : j < ys.length := by
          have := (List.getElem?_eq_some_iff.1 hu).1
          simpa using this
        obtain ⟨b, off, e, _, hc⟩ := h5 (by omega)
        cases e
        have := hc j (by omega)
        rw [Addr.add_lit, this]
        simp [hj] at hu
        simp [hj, hu]) (by
        intro u hu
        obtain ⟨x, _, rfl⟩ := List.mem_map.1 hu
        rfl) (by unfold maxLen; omega) (by omega) hbase
    refine ⟨v', w', hr, ?_, hg⟩
    unfold Ob
    rw [List.length_append, List.map_append, ← h1]
    exact ho

theorem wpList_append_rd {w : World} {ops : Array Oper} {rest : List Oper} {o : Oper} {a : Act} {Q : Exit → Act → World → Prop} (hgd : o.guard = none) (s x : Operand)
    (ho : o.op = .call { callee := .builtin .append, args := #[s, x], argTypes := #[27, 27] }) (base : Nat) (v : Value) (zs : List Int) (hs : a.eval s = v) (hown : Ob w base v zs)
    (ao : Option Addr) (m c : Nat) (ys : List Int) (hx : a.eval x = .slice ao m c) (hsrc : Rd w ao m c ys) (hb : zs.length + ys.length ≤ 70368744177664) (hbase : base ≤ w.heap.size)
    (h : ∀ v' w', Ob w' base v' (zs ++ ys) → w.grownBy w' v.ownBlock → wpList Tryd.prog ops Q rest (a.put o.dst v') w') : wpList Tryd.prog ops Q (o :: rest) a w := by
  refine wpList_plain hgd fun K hK => ?_
  obtain ⟨v', w', hr, h2, h3⟩ := run_append_rd (w := w) o.type base v zs hown ao m c ys hsrc hb hbase
  unfold Oper.wp execOp
  simp only [ho, resolve, invoke, builtin, Sem.run_bind, Sem.run_pure, Result.andThen_ok, List.map_toArray, List.map_cons, List.map_nil, hs, hx, hr]
  exact hK _ _ (h v' w' h2 h3)

/-- An owned slice, read. -/
theorem Ob.rd {w : World} {B : Nat} {v : Value} {zs : List Int} (h : Ob w B v zs) (hl : ∀ i : Nat, 0 ≤ zs[i]?.getD 0 ∧ zs[i]?.getD 0 ≤ 255) (hb : zs.length ≤ 70368744177664) :
    ∃ a c, v = .slice a zs.length c ∧ Rd w a zs.length c zs ∧ ∀ x, a = some x → B ≤ x.block := by
  rcases h.2 with ⟨rfl, h0⟩ | ⟨g, cap, cur, rfl, hbg, hg, hnc, hcm, hcs, htake⟩
  · exact ⟨none, 0, by rw [h0], ⟨rfl, by omega, by omega, by omega, hl, fun hp => by omega⟩, fun x hx => by cases hx⟩
  · refine ⟨some ⟨g, 0, none⟩, cap, rfl, ⟨rfl, hnc, by unfold maxLen at hcm; omega, by omega, hl, fun _ => ⟨g, 0, rfl, ?_, fun i hi => ?_⟩⟩, fun x hx => by cases hx; exact hbg⟩
    · rcases Nat.lt_or_ge g w.heap.size with h | h
      · exact h
      · rw [Array.getElem?_eq_none h] at hg; cases hg
    · have hc := h.cells (g := g) rfl i (.int .u8 (zs[i]?.getD 0)) (by simp [hi])
      rw [Addr.add_lit] at hc
      exact hc
theorem Ob.shape {w : World} {B : Nat} {v : Value} {zs : List Int} (h : Ob w B v zs) : ∃ a c, v = .slice a zs.length c := by
  rcases h.2 with ⟨rfl, h0⟩ | ⟨g, cap, cur, rfl, _⟩
  · exact ⟨none, 0, by rw [h0]⟩
  · exact ⟨_, cap, rfl⟩
theorem Ob.alloc {w : World} {B : Nat} {v : Value} {zs : List Int} (h : Ob w B v zs) (o : Obj) : Ob (w.alloc o) B v zs := World.ownsRow.alloc h o
/-- The empty literal. -/
theorem ob_new (w : World) (B : Nat) (hB : B ≤ w.heap.size) : Ob (w.alloc (.cells #[] 5)) B (.slice (some ⟨w.heap.size, 0, none⟩) 0 0) [] :=
  ⟨rfl, .inr ⟨w.heap.size, 0, #[], rfl, hB, heap_alloc_new w _, Nat.le_refl _, by decide, rfl, rfl⟩⟩
/-- What append leaves, below. -/
theorem Ob.below {w w1 w2 : World} {B : Nat} {v : Value} {zs : List Int} (h : Ob w1 B v zs) (hb : Below B w w1) (hB : B ≤ w1.heap.size) (hg : w1.grownBy w2 v.ownBlock) : Below B w w2 :=
  hb.grown hg hB fun k hk => (World.ownsRow.lt h k hk).1
/-- One byte in a row of its own. -/
theorem rd_one (w : World) (z : Int) (h0 : 0 ≤ z) (h1 : z ≤ 255) : Rd (w.alloc (.cells #[.int .u8 z] 5)) (some ⟨w.heap.size, 0, none⟩) 1 1 [z] := by
  refine ⟨rfl, Nat.le_refl _, by omega, by omega, fun i => ?_, fun _ => ⟨w.heap.size, 0, rfl, by simp, fun i hi => ?_⟩⟩
  · match i with
    | 0 => exact ⟨h0, h1⟩
    | n + 1 => simp
  · have : i = 0 := by omega
    subst this
    rw [World.cell?_alloc_at (hn := rfl)]
    simp

end Go.Proofs.YtpgogpphobafoaaDoor
/-
  Plain mathematics: the digits of a number to the base 128, and how a number is read from bytes.
-/
namespace Go.Proofs.YtpgogpphobafoaaDoor

/-- The digits of n, the lowest first, each but the last with 128 added; f of them at most before the last. -/
def encF : Nat → Int → List Int
  | 0, n => [n]
  | f + 1, n => if 128 ≤ n then (128 + n % 128) :: encF f (n / 128) else [n]
def enc (n : Int) : List Int := encF 6 n
/-- What f digits and one more can hold. -/
def bnd : Nat → Int
  | 0 => 128
  | f + 1 => 128 * bnd f

theorem bnd_pos (f : Nat) : 128 ≤ bnd f := by
  induction f with
  | zero => simp [bnd]
  | succ f ih => simp only [bnd]; omega
theorem encF_small (f : Nat) (n : Int) (h : n < 128) : encF f n = [n] := by
  cases f with
  | zero => rfl
  | succ f => simp only [encF]; rw [if_neg (by omega)]
theorem encF_big (f : Nat) (n : Int) (h : 128 ≤ n) : encF (f + 1) n = (128 + n % 128) :: encF f (n / 128) := by
  simp only [encF]; rw [if_pos h]
theorem bnd_down (f : Nat) (n : Int) (h : n < bnd (f + 1)) : n / 128 < bnd f := by
  simp only [bnd] at h
  omega
theorem encF_byte (f : Nat) : ∀ n : Int, 0 ≤ n → n < bnd f → ∀ z ∈ encF f n, 0 ≤ z ∧ z ≤ 255 := by
  induction f with
  | zero =>
    intro n h0 h1 z hz
    simp [encF] at hz
    simp [bnd] at h1
    omega
  | succ f ih =>
    intro n h0 h1 z hz
    by_cases h : 128 ≤ n
    · rw [encF_big f n h] at hz
      rcases List.mem_cons.1 hz with e | e
      · omega
      · exact ih (n / 128) (by omega) (bnd_down f n h1) z e
    · rw [encF_small _ n (by omega)] at hz
      simp at hz
      omega
theorem encF_len (f : Nat) : ∀ n : Int, 1 ≤ (encF f n).length ∧ (encF f n).length ≤ f + 1 := by
  induction f with
  | zero => intro n; simp [encF]
  | succ f ih =>
    intro n
    by_cases h : 128 ≤ n
    · rw [encF_big f n h]
      have := ih (n / 128)
      simp; omega
    · rw [encF_small _ n (by omega)]
      simp
theorem enc_byte (n : Int) (h0 : 0 ≤ n) (h1 : n ≤ 1099511627775) : ∀ z ∈ enc n, 0 ≤ z ∧ z ≤ 255 := encF_byte 6 n h0 (by simp [bnd]; omega)
theorem enc_len (n : Int) : 1 ≤ (enc n).length ∧ (enc n).length ≤ 7 := encF_len 6 n

theorem byte_at {zs : List Int} (h : ∀ z ∈ zs, 0 ≤ z ∧ z ≤ 255) (i : Nat) : 0 ≤ zs[i]?.getD 0 ∧ zs[i]?.getD 0 ≤ 255 := by
  by_cases hi : i < zs.length
  · have := h zs[i] (List.getElem_mem hi)
    simpa [hi] using this
  · have : zs[i]? = none := List.getElem?_eq_none (by omega)
    simp [this]
theorem at_byte {zs : List Int} (h : ∀ i : Nat, 0 ≤ zs[i]?.getD 0 ∧ zs[i]?.getD 0 ≤ 255) : ∀ z ∈ zs, 0 ≤ z ∧ z ≤ 255 := by
  intro z hz
  obtain ⟨i, hi, rfl⟩ := List.getElem_of_mem hz
  have := h i
  simpa [hi] using this
theorem byte_append {xs ys : List Int} (hx : ∀ z ∈ xs, 0 ≤ z ∧ z ≤ 255) (hy : ∀ z ∈ ys, 0 ≤ z ∧ z ≤ 255) : ∀ z ∈ xs ++ ys, 0 ≤ z ∧ z ≤ 255 := by
  intro z hz
  rcases List.mem_append.1 hz with h | h
  · exact hx z h
  · exact hy z h

/-- What PutVar answers: the bytes, where the number is one and the bytes are not too many. -/
def pv (zs : List Int) (n : Int) : Option (List Int) := if (0 ≤ n ∧ n ≤ 1099511627775) ∧ (zs ++ enc n).length ≤ 4096 then some (zs ++ enc n) else none
theorem pv_bad (zs : List Int) (n : Int) (h : n < 0 ∨ 1099511627775 < n) : pv zs n = none := by
  unfold pv; rw [if_neg (by omega)]
theorem pv_long (zs : List Int) (n : Int) (h : 4096 < (zs ++ enc n).length) : pv zs n = none := by
  unfold pv; rw [if_neg (by omega)]
theorem pv_ok (zs : List Int) (n : Int) (h0 : 0 ≤ n) (h1 : n ≤ 1099511627775) (h : (zs ++ enc n).length ≤ 4096) : pv zs n = some (zs ++ enc n) := by
  unfold pv; rw [if_pos ⟨⟨h0, h1⟩, h⟩]

/-- The weight of the digit that f more may follow, up to six digits. -/
def uOf : Nat → Int
  | 0 => 4398046511104
  | 1 => 34359738368
  | 2 => 268435456
  | 3 => 2097152
  | 4 => 16384
  | 5 => 128
  | _ => 1
theorem uOf_next (f : Nat) (h : f < 6) : uOf (f + 1) * 128 = uOf f := by
  match f, h with
  | 0, _ => rfl
  | 1, _ => rfl
  | 2, _ => rfl
  | 3, _ => rfl
  | 4, _ => rfl
  | 5, _ => rfl
theorem uOf_le (f : Nat) (h : 0 < f) : 1 ≤ uOf f ∧ uOf f ≤ 34359738368 := by
  match f, h with
  | 1, _ => simp [uOf]
  | 2, _ => simp [uOf]
  | 3, _ => simp [uOf]
  | 4, _ => simp [uOf]
  | 5, _ => simp [uOf]
  | n + 6, _ => simp [uOf]
theorem uOf_one (f : Nat) (h : 0 < f) (h6 : f ≤ 6) : 1 < uOf f ↔ f < 6 := by
  match f, h, h6 with
  | 1, _, _ => simp [uOf]
  | 2, _, _ => simp [uOf]
  | 3, _, _ => simp [uOf]
  | 4, _, _ => simp [uOf]
  | 5, _, _ => simp [uOf]
  | 6, _, _ => simp [uOf]

/-- Reading on at place k: n is what is read, u the weight of the next digit, f how many digits may come. -/
def gvGo : Nat → List Int → Nat → Int → Int → Int × Int
  | 0, _, _, _, _ => (0, -1)
  | f + 1, zs, k, n, u =>
    if k < zs.length then
      if 128 ≤ zs[k]?.getD 0 then gvGo f zs (k + 1) (n + (zs[k]?.getD 0 - 128) * u) (u * 128)
      else if 1099511627775 < n + zs[k]?.getD 0 * u ∨ (zs[k]?.getD 0 = 0 ∧ 1 < u) then (0, -1) else (n + zs[k]?.getD 0 * u, (k : Int) + 1)
    else (0, -1)
/-- What GetVar answers. -/
def gv (zs : List Int) (at' : Int) : Int × Int := if at' < 0 then (0, -1) else gvGo 6 zs at'.toNat 0 1
theorem gvGo_end (f : Nat) (zs : List Int) (k : Nat) (n u : Int) (h : zs.length ≤ k) : gvGo f zs k n u = (0, -1) := by
  cases f with
  | zero => rfl
  | succ f => simp only [gvGo]; rw [if_neg (by omega)]
theorem gvGo_more (f : Nat) (zs : List Int) (k : Nat) (n u : Int) (h : k < zs.length) (hd : 128 ≤ zs[k]?.getD 0) : gvGo (f + 1) zs k n u = gvGo f zs (k + 1) (n + (zs[k]?.getD 0 - 128) * u) (u * 128) := by
  simp only [gvGo]; rw [if_pos h, if_pos hd]
theorem gvGo_bad (f : Nat) (zs : List Int) (k : Nat) (n u : Int) (h : k < zs.length) (hd : zs[k]?.getD 0 < 128) (hb : 1099511627775 < n + zs[k]?.getD 0 * u ∨ (zs[k]?.getD 0 = 0 ∧ 1 < u)) : gvGo (f + 1) zs k n u = (0, -1) := by
  simp only [gvGo]; rw [if_pos h, if_neg (by omega), if_pos hb]
theorem gvGo_good (f : Nat) (zs : List Int) (k : Nat) (n u : Int) (h : k < zs.length) (hd : zs[k]?.getD 0 < 128) (hb : ¬ (1099511627775 < n + zs[k]?.getD 0 * u ∨ (zs[k]?.getD 0 = 0 ∧ 1 < u))) : gvGo (f + 1) zs k n u = (n + zs[k]?.getD 0 * u, (k : Int) + 1) := by
  simp only [gvGo]; rw [if_pos h, if_neg (by omega), if_neg hb]

/-- How many bytes a code has. -/
theorem encF_length_eq : ∀ (j f : Nat) (n : Int), 0 ≤ n → j ≤ f → ((encF f n).length = j + 1 ↔ ((j = 0 ∨ bnd (j - 1) ≤ n) ∧ (n < bnd j ∨ j = f))) := by
  intro j
  induction j with
  | zero =>
    intro f n h0 hj
    cases f with
    | zero => simp [encF]
    | succ f =>
      by_cases h : 128 ≤ n
      · rw [encF_big f n h]
        have := encF_len f (n / 128)
        have hb : bnd 0 = 128 := rfl
        simp only [List.length_cons]
        omega
      · rw [encF_small _ n (by omega)]
        simp [bnd]; omega
  | succ j ih =>
    intro f n h0 hj
    cases f with
    | zero => omega
    | succ f =>
      by_cases h : 128 ≤ n
      · rw [encF_big f n h]
        have e := ih f (n / 128) (by omega) (by omega)
        simp only [List.length_cons, Nat.add_right_cancel_iff] at e ⊢
        rw [e]
        cases j with
        | zero => simp [bnd]; omega
        | succ j =>
          simp only [bnd, Nat.add_sub_cancel]
          omega
      · rw [encF_small _ n (by omega)]
        have := bnd_pos j
        simp; omega

end Go.Proofs.YtpgogpphobafoaaDoor
/-
  The program's writer: what its methods fail and add do to it, for every state of the writer.
-/
namespace Go.Proofs.YtpgogpphobafoaaDoor
open Go.RowKit

/-- Block g is a writer that gathers at most 'most' bytes: it holds the bytes zs (st = some zs), or an error (st = none). -/
def Wr (w : World) (g most : Nat) (st : Option (List Int)) : Prop :=
  ∃ v ev zs, w.cell? ⟨g, 0, none⟩ = some v ∧ w.cell? ⟨g, 1, none⟩ = some (.int .i64 most) ∧ w.cell? ⟨g, 2, none⟩ = some ev ∧
    w.frozen? ⟨g, 0, none⟩ = false ∧ w.frozen? ⟨g, 2, none⟩ = false ∧ Ob w (g + 1) v zs ∧ zs.length ≤ most ∧ most ≤ 1099511627776 ∧ (∀ z ∈ zs, 0 ≤ z ∧ z ≤ 255) ∧
    ((ev = .nilIface ∧ st = some zs) ∨ ((∃ t x, ev = .iface t x) ∧ st = none))

/-- The variable at block v holds an error. -/
def Err (w : World) (v : Nat) : Prop := ∃ t x, w.cell? ⟨v, 0, none⟩ = some (.iface t x)
theorem Err.below {w w' : World} {v g : Nat} (h : Err w v) (hb : Below g w w') (hv : v < g) : Err w' v := by
  obtain ⟨t, x, hc⟩ := h
  exact ⟨t, x, by rw [hb.cell (p := ⟨v, 0, none⟩) hv]; exact hc⟩

def addSt (most : Nat) : Option (List Int) → List Int → Option (List Int)
  | none, _ => none
  | some zs, ys => if zs.length + ys.length ≤ most then some (zs ++ ys) else none

theorem Ob.drewN {w : World} {B : Nat} {v : Value} {zs : List Int} (h : Ob w B v zs) (q : Nat) : Ob (w.drewN q) B v zs := h
theorem Rd.drewN {w : World} {a : Option Addr} {n c : Nat} {zs : List Int} (h : Rd w a n c zs) (q : Nat) : Rd (w.drewN q) a n c zs := h

set_option maxHeartbeats 400000 in
theorem fail_set (g : Nat) (t : TypeId) (x : Value) (w : World) (h : w.cell? ⟨g, 2, none⟩ = some .nilIface) (hf : w.frozen? ⟨g, 2, none⟩ = false) :
    Calls Tryd.prog 66 #[.pointer (some ⟨g, 0, none⟩), .iface t x] w fun e w' => e = .returned (.tuple #[]) ∧ w' = w.setCell ⟨g, 2, none⟩ (.iface t x) := by
  go_enter Tryd.func66, Tryd.ntmps66
  go_wp2
  go_end0
  exact ⟨rfl, rfl⟩
set_option maxHeartbeats 400000 in
theorem fail_keep (g : Nat) (t : TypeId) (x : Value) (w : World) (y : TypeId) (z : Value) (h : w.cell? ⟨g, 2, none⟩ = some (.iface y z)) :
    Calls Tryd.prog 66 #[.pointer (some ⟨g, 0, none⟩), .iface t x] w fun e w' => e = .returned (.tuple #[]) ∧ w = w' := by
  go_enter Tryd.func66, Tryd.ntmps66
  go_wp2
  go_end0
  exact ⟨rfl, rfl⟩
/-- What is kept of a writer where its error alone is set. -/
theorem wr_failed {w : World} {g most : Nat} {zs : List Int} {v : Value} {t : TypeId} {x : Value} (c0 : w.cell? ⟨g, 0, none⟩ = some v) (c1 : w.cell? ⟨g, 1, none⟩ = some (.int .i64 most)) (c2 : w.cell? ⟨g, 2, none⟩ = some .nilIface)
    (f0 : w.frozen? ⟨g, 0, none⟩ = false) (f2 : w.frozen? ⟨g, 2, none⟩ = false) (ho : Ob w (g + 1) v zs) (hl : zs.length ≤ most) (hm : most ≤ 1099511627776) (hb : ∀ z ∈ zs, 0 ≤ z ∧ z ≤ 255) :
    Wr (w.setCell ⟨g, 2, none⟩ (.iface t x)) g most none := by
  refine ⟨v, .iface t x, zs, ?_, ?_, ?_, ?_, ?_, ownsRow_setCell_below ho (by simp) _, hl, hm, hb, .inr ⟨⟨t, x, rfl⟩, rfl⟩⟩
  · rw [World.cell?_setCell_other (h := by simp)]; exact c0
  · rw [World.cell?_setCell_other (h := by simp)]; exact c1
  · exact World.cell?_setCell_same _ _ _ c2
  · simp [f0]
  · simp [f2]

theorem Wr.drewN {w : World} {g most : Nat} {st : Option (List Int)} (h : Wr w g most st) (q : Nat) : Wr (w.drewN q) g most st := h
theorem Wr.lt {w : World} {g most : Nat} {st : Option (List Int)} (h : Wr w g most st) : g < w.heap.size := by
  obtain ⟨v, ev, zs, c0, _⟩ := h
  exact block_lt c0
/-- A writer keeps in a world that has kept its block and its row. -/
theorem Wr.alloc {w : World} {g most : Nat} {st : Option (List Int)} (h : Wr w g most st) (o : Obj) : Wr (w.alloc o) g most st := by
  have hlt := h.lt
  obtain ⟨v, ev, zs, c0, c1, c2, f0, f2, ho, hr⟩ := h
  exact ⟨v, ev, zs, by rw [World.cell?_alloc_past (hn := hlt)]; exact c0, by rw [World.cell?_alloc_past (hn := hlt)]; exact c1, by rw [World.cell?_alloc_past (hn := hlt)]; exact c2,
    by rw [World.frozen?_alloc_past (hn := hlt)]; exact f0, by rw [World.frozen?_alloc_past (hn := hlt)]; exact f2, ho.alloc o, hr⟩

set_option maxHeartbeats 800000 in
theorem add_any (g most : Nat) (st : Option (List Int)) (a : Option Addr) (n c : Nat) (ys : List Int) (w : World) (h : Wr w g most st) (he : Err w 1) (hs : Rd w a n c ys) (hn : n ≤ 1099511627776) :
    Calls Tryd.prog 56 #[.pointer (some ⟨g, 0, none⟩), .slice a n c] w fun e w' => e = .returned (.tuple #[]) ∧ Below g w w' ∧ Wr w' g most (addSt most st ys) := by
  have HW := hid h
  have HS := hid hs
  have HN : Hid (n = ys.length) := hs.1
  have hyb := at_byte hs.2.2.2.2.1
  have HY := hid hyb
  have hlt := h.lt
  obtain ⟨v, ev, zs, c0, c1, c2, f0, f2, ho, hl, hm, hb, hst⟩ := h
  obtain ⟨t, x, hx⟩ := he
  obtain ⟨va, vc, hv⟩ := ho.shape
  have HO := hid ho
  have HB := hid hb
  have HV := hid hv
  rw [hv] at c0
  generalize hL : zs.length = L at hv hl c0
  have HL := hid hL
  clear ho hb hs hyb hL hv
  by_cases hbig : (most : Int) - (L : Int) < (n : Int)
  · rcases hst with ⟨rfl, rfl⟩ | ⟨⟨y, z, rfl⟩, rfl⟩
    · have HA : Hid (addSt most (some zs) ys = none) := by
        show addSt most (some zs) ys = none
        unfold addSt
        exact if_neg (by rw [HL.out, ← HN.out]; omega)
      go_enter Tryd.func56, Tryd.ntmps56
      go_wp2
      go_quiet (fail)
      go_wp2_with (go_at_call 66; refine (fail_set g t x _ (by simpa using c2) (by simpa using f2)).mono ?_)
      rintro e w1 ⟨rfl, hw1⟩
      have HW1 : Hid (Wr w1 g most none) := by
        show Wr w1 g most none
        rw [hw1]
        exact wr_failed (w := w.drewN nq) (by simpa [HV.out, HL.out] using c0) (by simpa using c1) (by simpa using c2) (by simpa using f0) (by simpa using f2) HO.out (by rw [HL.out]; exact hl) hm HB.out
      have hb1 : Below g w w1 := by rw [hw1]; exact Below.setCell (p := ⟨g, 2, none⟩) (Below.drewN' (Below.refl g w) nq) (Nat.le_refl g) _
      have d2 : w1.cell? ⟨g, 2, none⟩ = some (.iface t x) := by rw [hw1]; exact World.cell?_setCell_same _ _ _ (by simpa using c2)
      clear hw1
      go_wp2
      go_end0
      exact ⟨rfl, hb1, by rw [HA.out]; exact HW1.out⟩
    · go_enter Tryd.func56, Tryd.ntmps56
      go_wp2
      go_quiet (fail)
      go_wp2_with (go_at_call 66; refine (fail_keep g t x _ y z (by simpa using c2)).mono ?_)
      rintro e w1 ⟨rfl, rfl⟩
      go_wp2
      go_end0
      exact ⟨rfl, Below.drewN' (Below.refl _ _) nq, HW.out.drewN nq⟩
  · rcases hst with ⟨rfl, rfl⟩ | ⟨⟨y, z, rfl⟩, rfl⟩
    · have HA : Hid (addSt most (some zs) ys = some (zs ++ ys)) := by
        show addSt most (some zs) ys = some (zs ++ ys)
        unfold addSt
        exact if_pos (by rw [HL.out, ← HN.out]; omega)
      have HO' : Hid (Ob w (g + 1) (.slice va L vc) zs) := by show Ob w (g + 1) (.slice va L vc) zs; rw [← HL.out, ← HV.out]; exact HO.out
      go_enter Tryd.func56, Tryd.ntmps56
      go_wp2
      go_quiet (fail)
      go_wp2_with (at_builtin; refine wpList_append_rd rfl _ _ rfl (g + 1) _ zs rfl (HO'.out.drewN nq) a n c ys rfl (HS.out.drewN nq) ?b ?base ?_)
      case b => rw [HL.out, ← HN.out]; omega
      case base => simp; omega
      intro v2 w2 hown2 hg2
      have hb2 : Below (g + 1) w w2 := Ob.below (HO'.out.drewN nq) (Below.drewN' (Below.refl _ _) nq) (by simp; omega) hg2
      have HO2 := hid hown2
      obtain ⟨a2, k2, hv2⟩ := hown2.shape
      have d0 := (hb2.cell (p := ⟨g, 0, none⟩) (by simp)).trans c0
      have d1 := (hb2.cell (p := ⟨g, 1, none⟩) (by simp)).trans c1
      have d2 := (hb2.cell (p := ⟨g, 2, none⟩) (by simp)).trans c2
      have e0 := (hb2.frozen (p := ⟨g, 0, none⟩) (by simp)).trans f0
      have e2 := (hb2.frozen (p := ⟨g, 2, none⟩) (by simp)).trans f2
      generalize hL2 : (zs ++ ys).length = L2 at hv2
      have HL2 := hid hL2
      have HV2 := hid hv2
      clear hown2 hg2 hL2
      rw [hv2]
      clear hv2
      go_wp2
      go_end0
      refine ⟨rfl, Below.setCell (p := ⟨g, 0, none⟩) (hb2.mono (Nat.le_succ g)) (Nat.le_refl g) _, ?_⟩
      rw [HA.out]
      refine ⟨.slice a2 L2 k2, .nilIface, zs ++ ys, World.cell?_setCell_same _ _ _ d0, ?_, ?_, by simpa using e0, by simpa using e2, ?_, ?_, hm, byte_append HB.out HY.out, .inl ⟨rfl, rfl⟩⟩
      · rw [World.cell?_setCell_other (h := by simp)]; exact d1
      · rw [World.cell?_setCell_other (h := by simp)]; exact d2
      · rw [← HV2.out]; exact ownsRow_setCell_below HO2.out (by simp) _
      · rw [List.length_append, HL.out, ← HN.out]; omega
    · go_enter Tryd.func56, Tryd.ntmps56
      go_wp2
      go_quiet (fail)
      go_wp2
      go_end0
      exact ⟨rfl, Below.drewN' (Below.refl _ _) nq, HW.out.drewN nq⟩

set_option maxHeartbeats 400000 in
theorem addByte_any (g most : Nat) (st : Option (List Int)) (z : Int) (w : World) (h : Wr w g most st) (he : Err w 1) (hg : 1 < g) (h0 : 0 ≤ z) (h1 : z ≤ 255) :
    Calls Tryd.prog 55 #[.pointer (some ⟨g, 0, none⟩), .int .u8 z] w fun e w' => e = .returned (.tuple #[]) ∧ Below g w w' ∧ Wr w' g most (addSt most st [z]) := by
  have hlt := h.lt
  have HW := hid h
  have HE := hid he
  clear h he
  have hb1 : Below g w (w.alloc (.cells #[.int .u8 z] 5)) := (Below.refl _ _).alloc (Nat.le_of_lt hlt) _
  have HB := hid hb1
  clear hb1
  go_enter Tryd.func55, Tryd.ntmps55
  go_wp2_with (go_at_call 56; refine (add_any g most st _ 1 1 [z] _ (HW.out.alloc _) (HE.out.below HB.out hg) (rd_one w z h0 h1) (by omega)).mono ?_; rintro e w1 ⟨rfl, hb, hw⟩)
  go_end0
  exact ⟨rfl, HB.out.trans hb, hw⟩
theorem addSt_none (most : Nat) (ys : List Int) : addSt most none ys = none := rfl
theorem addSt_addSt (most : Nat) (st : Option (List Int)) (xs ys : List Int) : addSt most (addSt most st xs) ys = addSt most st (xs ++ ys) := by
  cases st with
  | none => rfl
  | some zs =>
    by_cases h : zs.length + xs.length ≤ most
    · have e : addSt most (some zs) xs = some (zs ++ xs) := by unfold addSt; exact if_pos h
      rw [e]
      unfold addSt
      simp [Nat.add_assoc]
    · have e : addSt most (some zs) xs = none := by unfold addSt; exact if_neg h
      have e2 : addSt most (some zs) (xs ++ ys) = none := by unfold addSt; exact if_neg (by rw [List.length_append]; omega)
      rw [e, e2, addSt_none]
theorem Wr.add_nil {w : World} {g most : Nat} {st : Option (List Int)} (h : Wr w g most st) : addSt most st [] = st := by
  obtain ⟨v, ev, zs, _, _, _, _, _, _, hl, _, _, ⟨_, rfl⟩ | ⟨_, rfl⟩⟩ := h
  · unfold addSt; simp [hl]
  · rfl

set_option maxHeartbeats 400000 in
theorem isNumber_any (n : Int) (w : World) (b : Bool) (hb : b = decide (0 ≤ n ∧ n ≤ 1099511627775)) :
    Calls Tryd.prog 79 #[.int .i64 n] w fun e w' => e = .returned (.bool b) ∧ w = w' := by
  have HB : Hid (b = decide (0 ≤ n ∧ n ≤ 1099511627775)) := hb
  clear hb
  by_cases h0 : 0 ≤ n
  · by_cases h1 : n ≤ 1099511627775
    · go_enter Tryd.func79, Tryd.ntmps79
      go_wp2
      go_ret
      exact ⟨by rw [HB.out]; simp [h0, h1], rfl⟩
    · go_enter Tryd.func79, Tryd.ntmps79
      go_wp2
      go_ret
      exact ⟨by rw [HB.out]; simp [h1], rfl⟩
  · go_enter Tryd.func79, Tryd.ntmps79
    go_wp2
    go_ret
    exact ⟨by rw [HB.out, decide_eq_false (by omega)]; rfl, rfl⟩
/-- What number does to the writer's state. -/
def numSt (most : Nat) (st : Option (List Int)) (n : Int) : Option (List Int) := if 0 ≤ n ∧ n ≤ 1099511627775 then addSt most st (enc n) else none

set_option maxHeartbeats 800000 in
theorem number_any (g most : Nat) (st : Option (List Int)) (m : Int) (w : World) (h : Wr w g most st) (he : Err w 1) (he2 : Err w 2) (hg : 1 < g) :
    Calls Tryd.prog 64 #[.pointer (some ⟨g, 0, none⟩), .int .i64 m] w fun e w' => e = .returned (.tuple #[]) ∧ Below g w w' ∧ Wr w' g most (numSt most st m) := by
  by_cases hok : 0 ≤ m ∧ m ≤ 1099511627775
  · have HA : Hid (numSt most st m = addSt most st (enc m)) := by show numSt most st m = addSt most st (enc m); unfold numSt; exact if_pos hok
    obtain ⟨h0, h1⟩ := hok
    have HW := hid h
    have HE := hid he
    clear h he he2
    go_enter Tryd.func64, Tryd.ntmps64
    go_wp2_with (go_at_call 79; refine (isNumber_any m _ true (by simp [h0, h1])).mono ?_; rintro e w' ⟨rfl, rfl⟩)
    go_loopw [1] (fun i wr => ∃ (f : Nat) (q : Int) (ds : List Int), i = .int .i64 q ∧ 0 ≤ q ∧ q ≤ 1099511627775 ∧ q < bnd f ∧ ds ++ encF f q = enc m ∧ Wr wr g most (addSt most st ds) ∧ Below g w wr) (fun i _ => (intOf i).toNat)
    case atStart => exact ⟨6, m, [], rfl, h0, h1, by simp [bnd]; omega, rfl, by rw [HW.out.add_nil]; exact HW.out, Below.refl _ _⟩
    case round =>
      obtain ⟨f, q, ds, rfl, hq0, hq1, hqb, hds, hwr, hbel⟩ := hrel
      have HD := hid hds
      have HQ := hid hqb
      have HR := hid hwr
      clear hds hqb hwr
      have HE2 := hid (HE.out.below hbel hg)
      by_cases hge : 128 ≤ q
      · obtain ⟨f', hf'⟩ : ∃ f', f = f' + 1 := by
          cases f with
          | zero => have := HQ.out; simp [bnd] at this; omega
          | succ f => exact ⟨f, rfl⟩
        subst hf'
        have HD2 : Hid (ds ++ [q % 128 + 128] ++ encF f' (q / 128) = enc m) := by
          show ds ++ [q % 128 + 128] ++ encF f' (q / 128) = enc m
          rw [← HD.out, encF_big f' q hge, Int.add_comm]; simp
        have HQ2 : Hid (q / 128 < bnd f') := bnd_down f' q HQ.out
        go_wp2_with (go_at_call 55; refine (addByte_any g most _ (q % 128 + 128) _ HR.out HE2.out hg (by omega) (by omega)).mono ?_; rintro e w2 ⟨rfl, hb2, hw2⟩)
        go_roundw
        case rel => exact ⟨f', q / 128, ds ++ [q % 128 + 128], rfl, by omega, by omega, HQ2.out, HD2.out, by rw [← addSt_addSt]; exact hw2, hbel.trans hb2⟩
        case measure => simp [intOf]; omega
      · have HE3 : Hid (ds ++ [q] = enc m) := by
          show ds ++ [q] = enc m
          rw [← HD.out, encF_small f q (by omega)]
        go_wp2_with (go_at_call 55; refine (addByte_any g most _ q _ HR.out HE2.out hg (by omega) (by omega)).mono ?_; rintro e w2 ⟨rfl, hb2, hw2⟩)
        go_end0
        exact ⟨rfl, hbel.trans hb2, by rw [HA.out, ← HE3.out, ← addSt_addSt]; exact hw2⟩
  · have HA : Hid (numSt most st m = none) := by show numSt most st m = none; unfold numSt; exact if_neg hok
    have HW := hid h
    obtain ⟨t, x, hx⟩ := he2
    obtain ⟨v, ev, zs, c0, c1, c2, f0, f2, ho, hl, hm, hb, hst⟩ := h
    have HO := hid ho
    have HB := hid hb
    clear ho hb he
    rcases hst with ⟨rfl, rfl⟩ | ⟨⟨y, z, rfl⟩, rfl⟩
    · go_enter Tryd.func64, Tryd.ntmps64
      go_wp2_with (first
        | (go_at_call 79; refine (isNumber_any m _ false (by rw [decide_eq_false hok])).mono ?_; rintro e w' ⟨rfl, rfl⟩)
        | (go_at_call 66; refine (fail_set g t x _ c2 f2).mono ?_; rintro e w1 ⟨rfl, hw1⟩))
      refine bodyPost_ret (results_none rfl _ _ _) rfl ⟨rfl, ?_, ?_⟩
      · exact Below.setCell (p := ⟨g, 2, none⟩) (Below.refl g w) (Nat.le_refl g) _
      · rw [HA.out]; exact wr_failed c0 c1 c2 f0 f2 HO.out hl hm HB.out
    · go_enter Tryd.func64, Tryd.ntmps64
      go_wp2_with (first
        | (go_at_call 79; refine (isNumber_any m _ false (by rw [decide_eq_false hok])).mono ?_; rintro e w' ⟨rfl, rfl⟩)
        | (go_at_call 66; refine (fail_keep g t x _ y z c2).mono ?_; rintro e w1 ⟨rfl, rfl⟩))
      exact bodyPost_ret (results_none rfl _ _ _) rfl ⟨rfl, Below.refl _ _, by rw [HA.out]; exact HW.out⟩
set_option maxHeartbeats 400000 in
/-- A new writer begins with a copy of the bytes. -/
theorem newWriter_any (most : Nat) (a : Option Addr) (n c : Nat) (ys : List Int) (w : World) (he : Err w 1) (hg : 1 < w.heap.size) (hs : Rd w a n c ys) (hn : n ≤ 1099511627776) (hm : most ≤ 1099511627776) :
    Calls Tryd.prog 35 #[.slice a n c, .int .i64 most] w fun e w' => e = .returned (.pointer (some ⟨w.heap.size, 0, none⟩)) ∧ Below w.heap.size w w' ∧ Wr w' w.heap.size most (addSt most (some []) ys) := by
  have HE := hid he
  have HS := hid hs
  have HG := hid hg
  clear he hs hg
  go_enter Tryd.func35, Tryd.ntmps35
  have hw0 : Wr (w.alloc (.cells #[.slice none 0 0, .int .i64 most, .nilIface] 83)) w.heap.size most (some []) := by
    refine ⟨.slice none 0 0, .nilIface, [], ?_, ?_, ?_, World.frozen?_alloc_at (hn := rfl) .., World.frozen?_alloc_at (hn := rfl) .., World.ownsRow_nil _ _ _ _, by simp, hm, by simp, .inl ⟨rfl, rfl⟩⟩
    · rw [World.cell?_alloc_at (hn := rfl)]; rfl
    · rw [World.cell?_alloc_at (hn := rfl)]; rfl
    · rw [World.cell?_alloc_at (hn := rfl)]; rfl
  have hb0 : Below w.heap.size w (w.alloc (.cells #[.slice none 0 0, .int .i64 most, .nilIface] 83)) := (Below.refl _ _).alloc (Nat.le_refl _) _
  have HW0 := hid hw0
  have HB0 := hid hb0
  clear hw0 hb0
  go_wp2_with (go_at_call 56; refine (add_any w.heap.size most (some []) a n c ys _ HW0.out (HE.out.below HB0.out HG.out) (HS.out.kept HB0.out) hn).mono ?_; rintro e w1 ⟨rfl, hb1, hw1⟩)
  go_ret
  exact ⟨rfl, HB0.out.trans hb1, hw1⟩

set_option maxHeartbeats 400000 in
theorem told_none (g most : Nat) (w : World) (h : Wr w g most none) :
    Calls Tryd.prog 39 #[.pointer (some ⟨g, 0, none⟩)] w fun e w' => e = .returned (.tuple #[.slice none 0 0, .bool false]) ∧ w = w' := by
  obtain ⟨v, ev, zs, c0, c1, c2, f0, f2, ho, hl, hm, hb, ⟨_, h⟩ | ⟨⟨t, x, rfl⟩, _⟩⟩ := h
  · cases h
  · clear ho hb
    go_enter Tryd.func39, Tryd.ntmps39
    go_wp2
    go_ret2
    exact ⟨rfl, rfl⟩
set_option maxHeartbeats 400000 in
theorem told_some (g most : Nat) (out : List Int) (w : World) (h : Wr w g most (some out)) :
    Calls Tryd.prog 39 #[.pointer (some ⟨g, 0, none⟩)] w fun e w' => ∃ v, e = .returned (.tuple #[v, .bool true]) ∧ Ob w (g + 1) v out ∧ w = w' := by
  obtain ⟨v, ev, zs, c0, c1, c2, f0, f2, ho, hl, hm, hb, ⟨rfl, h⟩ | ⟨⟨t, x, rfl⟩, h⟩⟩ := h
  · cases h
    obtain ⟨va, vc, hv⟩ := ho.shape
    have HO := hid ho
    have HV := hid hv
    rw [hv] at c0
    clear ho hb hv
    go_enter Tryd.func39, Tryd.ntmps39
    go_wp2
    go_ret2
    exact ⟨_, rfl, by have := HO.out; rw [HV.out] at this; exact this, rfl⟩
  · cases h
end Go.Proofs.YtpgogpphobafoaaDoor
/-
  What the model's PutVar answers, for every slice of bytes and every number.
-/
namespace Go.Proofs.YtpgogpphobafoaaDoor
open Go.RowKit

set_option maxHeartbeats 400000 in
theorem specNum_any (n : Int) (w : World) (b : Bool) (hb : b = decide (0 ≤ n ∧ n ≤ 1099511627775)) :
    Calls Tryd.prog 61 #[.int .i64 n] w fun e w' => e = .returned (.bool b) ∧ w = w' := by
  have HB : Hid (b = decide (0 ≤ n ∧ n ≤ 1099511627775)) := hb
  clear hb
  by_cases h0 : 0 ≤ n
  · by_cases h1 : n ≤ 1099511627775
    · go_enter Tryd.func61, Tryd.ntmps61
      go_wp2
      go_ret
      exact ⟨by rw [HB.out]; simp [h0, h1], rfl⟩
    · go_enter Tryd.func61, Tryd.ntmps61
      go_wp2
      go_ret
      exact ⟨by rw [HB.out]; simp [h1], rfl⟩
  · go_enter Tryd.func61, Tryd.ntmps61
    go_wp2
    go_ret
    exact ⟨by rw [HB.out, decide_eq_false (by omega)]; rfl, rfl⟩

/-- What a put leaves: nil and false, or a row of the call's own and true. -/
def Put (w : World) (r : Option (List Int)) (e : Ending) (w' : World) : Prop :=
  Below w.heap.size w w' ∧ ((r = none ∧ e = .returned (.tuple #[.slice none 0 0, .bool false])) ∨ ∃ v zs, r = some zs ∧ e = .returned (.tuple #[v, .bool true]) ∧ Ob w' w.heap.size v zs)

set_option maxHeartbeats 800000 in
theorem specPutVar_any (a : Option Addr) (n c : Nat) (zs : List Int) (m : Int) (w : World) (h : Rd w a n c zs) (hlen : n ≤ 1099511627776) :
    Calls Tryd.prog 29 #[.slice a n c, .int .i64 m] w fun e w' => Put w (pv zs m) e w' := by
  have HN : Hid (n = zs.length) := h.1
  by_cases hok : 0 ≤ m ∧ m ≤ 1099511627775
  · obtain ⟨h0, h1⟩ := hok
    go_enter Tryd.func29, Tryd.ntmps29
    go_wp2_with (first
      | (go_at_call 61; refine (specNum_any m _ true (by simp [h0, h1])).mono ?_; rintro e w' ⟨rfl, rfl⟩)
      | (at_builtin; refine wpList_append_rd rfl _ _ rfl w.heap.size _ [] rfl (ob_new w w.heap.size (Nat.le_refl _)) a n c zs rfl ?src ?b ?base ?_))
    case src => exact h.kept ((Below.refl _ _).alloc (Nat.le_refl _) _)
    case b => rw [← HN.out]; simp; omega
    case base => simp
    intro v1 w1 hown1 hg1
    have hb1 : Below w.heap.size w w1 := Ob.below (ob_new w w.heap.size (Nat.le_refl _)) ((Below.refl _ _).alloc (Nat.le_refl _) _) (by simp) hg1
    have hown1' : Ob w1 w.heap.size v1 zs := by simpa using hown1
    clear hown1 hg1
    go_wp2
    go_loopw [6, 1] (fun v i wr => ∃ (f : Nat) (q : Int) (ds : List Int), i = .int .i64 q ∧ 0 ≤ q ∧ q ≤ 1099511627775 ∧ q < bnd f ∧ f ≤ 6 ∧ ds.length + f ≤ 6 ∧ ds ++ encF f q = enc m ∧ (∀ z ∈ ds, 0 ≤ z ∧ z ≤ 255) ∧ Ob wr w.heap.size v (zs ++ ds) ∧ Below w.heap.size w wr) (fun _ i _ => (intOf i).toNat)
    case atStart => exact ⟨6, m, [], rfl, h0, h1, by simp [bnd]; omega, by omega, by simp, rfl, by simp, by simpa using hown1', hb1⟩
    case round =>
      obtain ⟨f, q, ds, rfl, hq0, hq1, hqb, hf6, hdl, hds, hdb, hown, hbel⟩ := hrel
      have HD : Hid (ds ++ encF f q = enc m) := hds
      have HB : Hid (∀ z ∈ ds, 0 ≤ z ∧ z ≤ 255) := hdb
      have HQ : Hid (q < bnd f) := hqb
      have HO : Hid (Ob wr w.heap.size u6 (zs ++ ds)) := hown
      clear hds hdb hqb hown hb1 hown1'
      by_cases hge : 128 ≤ q
      · obtain ⟨f', hf'⟩ : ∃ f', f = f' + 1 := by
          cases f with
          | zero => have := HQ.out; simp [bnd] at this; omega
          | succ f => exact ⟨f, rfl⟩
        subst hf'
        have HD2 : Hid (ds ++ [128 + q % 128] ++ encF f' (q / 128) = enc m) := by
          show ds ++ [128 + q % 128] ++ encF f' (q / 128) = enc m
          rw [← HD.out, encF_big f' q hge]; simp
        have HQ2 : Hid (q / 128 < bnd f') := bnd_down f' q HQ.out
        go_wp2_with (at_builtin; refine wpList_append_rd rfl _ _ rfl w.heap.size _ (zs ++ ds) rfl (HO.out.alloc _) _ _ _ [128 + q % 128] rfl ?src ?b ?base ?_)
        case src => exact rd_one wr (128 + q % 128) (by omega) (by omega)
        case b => have := HN.out; simp; omega
        case base => have := hbel.size; simp; omega
        intro v2 w2 hown2 hg2
        have hb2 : Below w.heap.size w w2 := Ob.below (HO.out.alloc _) (hbel.alloc hbel.size _) (by have := hbel.size; simp; omega) hg2
        have HO2 : Hid (Ob w2 w.heap.size v2 (zs ++ (ds ++ [128 + q % 128]))) := hown2
        clear hown2 hg2
        go_wp2
        go_roundw
        case rel => exact ⟨f', q / 128, ds ++ [128 + q % 128], rfl, by omega, by omega, HQ2.out, by omega, by simp; omega, HD2.out, byte_append HB.out (by intro z hz; simp at hz; omega), HO2.out, hb2⟩
        case measure => simp [intOf]; omega
      · have HE : Hid (ds ++ [q] = enc m) := by
          show ds ++ [q] = enc m
          rw [← HD.out, encF_small f q (by omega)]
        go_wp2_with (at_builtin; refine wpList_append_rd rfl _ _ rfl w.heap.size _ (zs ++ ds) rfl (HO.out.alloc _) _ _ _ [q] rfl ?src ?b ?base ?_)
        case src => exact rd_one wr q (by omega) (by omega)
        case b => have := HN.out; simp; omega
        case base => have := hbel.size; simp; omega
        intro v2 w2 hown2 hg2
        have hb2 : Below w.heap.size w w2 := Ob.below (HO.out.alloc _) (hbel.alloc hbel.size _) (by have := hbel.size; simp; omega) hg2
        have hown3 : Ob w2 w.heap.size v2 (zs ++ enc m) := by
          rw [← HE.out]; exact hown2
        have HO2 : Hid (Ob w2 w.heap.size v2 (zs ++ enc m)) := hown3
        obtain ⟨a2, c2, hv2⟩ := hown3.shape
        have hl2 : (zs ++ enc m).length ≤ 1099511627783 := by
          have := (enc_len m).2
          have := HN.out
          simp; omega
        generalize hL : (zs ++ enc m).length = L at hv2 hl2
        have HL : Hid ((zs ++ enc m).length = L) := hL
        clear hown2 hg2 hown3 hL
        rw [hv2]
        by_cases hbig : 4096 < L
        · go_wp2
          go_ret2
          exact ⟨hb2, .inl ⟨pv_long _ _ (by rw [HL.out]; exact hbig), rfl⟩⟩
        · go_wp2
          go_ret2
          exact ⟨hb2, .inr ⟨_, _, pv_ok _ _ h0 h1 (by rw [HL.out]; omega), rfl, by rw [← hv2]; exact HO2.out⟩⟩
  · have HB : Hid (pv zs m = none) := pv_bad zs m (by omega)
    go_enter Tryd.func29, Tryd.ntmps29
    go_wp2_with (go_at_call 61; refine (specNum_any m _ false (by rw [decide_eq_false hok])).mono ?_; rintro e w' ⟨rfl, rfl⟩)
    go_ret2
    exact ⟨Below.refl _ _, .inl ⟨HB.out, rfl⟩⟩
end Go.Proofs.YtpgogpphobafoaaDoor
/-
  What the program's PutVar answers, for every slice of bytes and every number: the same as the model's.
-/
namespace Go.Proofs.YtpgogpphobafoaaDoor
open Go.RowKit

theorem addSt_start (most : Nat) (zs : List Int) : addSt most (some []) zs = if zs.length ≤ most then some zs else none := by
  unfold addSt; simp
theorem addSt_two (most : Nat) (xs ys : List Int) : addSt most (addSt most (some []) xs) ys = if (xs ++ ys).length ≤ most then some (xs ++ ys) else none := by
  rw [addSt_addSt, addSt_start]
theorem Ob.mono {w : World} {B B' : Nat} {v : Value} {zs : List Int} (h : Ob w B v zs) (hB : B' ≤ B) : Ob w B' v zs := by
  obtain ⟨h1, h2⟩ := h
  refine ⟨h1, ?_⟩
  rcases h2 with h | ⟨g, cap, cur, e, hbg, hr⟩
  · exact .inl h
  · exact .inr ⟨g, cap, cur, e, Nat.le_trans hB hbg, hr⟩
/-- What told tells, as a put. -/
theorem told_put (w w1 : World) (most : Nat) (st : Option (List Int)) (h : Wr w1 w.heap.size most st) (hb : Below w.heap.size w w1) :
    Calls Tryd.prog 39 #[.pointer (some ⟨w.heap.size, 0, none⟩)] w1 fun e w' => ∃ v b, e = .returned (.tuple #[v, .bool b]) ∧ (∃ a n c, v = .slice a n c) ∧ Put w st (.returned (.tuple #[v, .bool b])) w' := by
  cases st with
  | none =>
    refine (told_none w.heap.size most w1 h).mono ?_
    rintro e w' ⟨rfl, rfl⟩
    exact ⟨_, _, rfl, ⟨_, _, _, rfl⟩, hb, .inl ⟨rfl, rfl⟩⟩
  | some out =>
    refine (told_some w.heap.size most out w1 h).mono ?_
    rintro e w' ⟨v, rfl, ho, rfl⟩
    obtain ⟨a, c, hv⟩ := ho.shape
    exact ⟨_, _, rfl, ⟨_, _, _, hv⟩, hb, .inr ⟨v, out, rfl, rfl, ho.mono (Nat.le_succ _)⟩⟩
end Go.Proofs.YtpgogpphobafoaaDoor
/-
  'append(v, make([]byte, k)...)' onto a slice of bytes that the call owns; '[]byte(s)' as a slice that is read.
-/
namespace Go.Proofs.YtpgogpphobafoaaDoor
open Go.RowKit

theorem zeroCells_one (k : Nat) : Builtin.zeroCells #[.int .u8 0] k = (List.replicate k (Value.int .u8 0)).toArray := by
  apply Array.ext
  · simp [Builtin.zeroCells]
  · intro i h1 h2
    simp [Builtin.zeroCells, Nat.mod_one]

theorem run_append_zeros {w : World} (ty : TypeId) (base : Nat) (v : Value) (zs : List Int) (hown : Ob w base v zs) (k : Nat) (hb : zs.length + k ≤ 70368744177664) (hbase : base ≤ w.heap.size) :
    ∃ v' w', (Builtin.append_ #[27, 3] ty #[v, .int .i64 (k : Int)]).run Tryd.prog w = .ok v' w' ∧ Ob w' base v' (zs ++ List.replicate k 0) ∧ w.grownBy w' v.ownBlock := by
  obtain ⟨i0, hi, hz0, hz1, hz2⟩ := info_parts infoU8
  have hwr : IntKind.i64.wrap (k : Int) = k := by rw [IntKind.wrap_i64]; omega
  have hneg : ¬ ((k : Int) < 0) := by omega
  have h48 : ¬ (281474976710656 < (k : Int)) := by omega
  have ht := Tryd.underlying27
  have htn := Tryd.underlying3
  have grown : ∀ (old : Nat), old < zs.length + k → ∀ (row : Option Nat),
      Ob (w.drew.alloc (.cells ((zs.map (Value.int .u8)).toArray ++ Builtin.zeroCells #[.int .u8 0] k ++ Builtin.zeroCells #[.int .u8 0] (grownCap w (zs.length + k) old 5 - (zs.length + k))) 5)) base
        (.slice (some ⟨w.heap.size, 0, none⟩) (zs.length + k) (grownCap w (zs.length + k) old 5)) (zs ++ List.replicate k 0) ∧
      w.grownBy (w.drew.alloc (.cells ((zs.map (Value.int .u8)).toArray ++ Builtin.zeroCells #[.int .u8 0] k ++ Builtin.zeroCells #[.int .u8 0] (grownCap w (zs.length + k) old 5 - (zs.length + k))) 5)) row := by
    intro old ho row
    have hge := grownCap_ge w (zs.length + k) old 5
    have hcm : grownCap w (zs.length + k) old 5 ≤ maxLen := grownCap_le_maxLen w (zs.length + k) old 5 (by unfold maxLen; omega)
    have hl : (zs ++ List.replicate k (0 : Int)).length = zs.length + k := by simp
    refine ⟨⟨by simp, .inr ⟨w.heap.size, _, _, by rw [hl], hbase, heap_alloc_new w.drew _, by rw [hl]; exact hge, hcm, ?_, ?_⟩⟩, ⟨rfl, rfl, rfl, by simp, fun j hj _ => Below.heap_alloc w.drew _ j hj⟩⟩
    · simp [zeroCells_one]; omega
    · rw [hl, zeroCells_one, Nat.mul_one]
      simp only [Array.toList_append, List.map_append, List.map_replicate]
      rw [List.take_left' (by simp)]
  have hcc : (Value.int .u8 0).cells = #[.int .u8 0] := rfl
  rcases hown.2 with ⟨rfl, h0⟩ | ⟨g, cap, cur, rfl, hbg, hg, hnc, hcm, hcs, htake⟩
  · have hx : zs = [] := List.eq_nil_of_length_eq_zero h0
    subst hx
    by_cases hk : k = 0
    · subst hk
      refine ⟨.slice none 0 0, w, ?_, World.ownsRow_nil w base 5 1, ⟨rfl, rfl, rfl, Nat.le_refl _, fun _ _ _ => rfl⟩⟩
      simp [Builtin.append_, run_underlying ht, run_underlying htn, sizeOf, typeInfo, hi, hz2, asInt, asIntOf, IntKind.wrap_i64]
    · have hgr := grown 0 (by simp; omega) (Value.ownBlock (.slice none 0 0))
      simp only [List.length_nil, Nat.zero_add, List.map_nil, List.nil_append, Array.empty_append] at hgr ⊢
      refine ⟨_, _, ?_, hgr.1, hgr.2⟩
      have h63 : ¬ (9223372036854775807 < (k : Int)) := by omega
      have hfit := growslice_fits (need := k) (old := 0) (bytes := 1) (by omega) (by omega)
      have hfit' : ¬ (281474976710656 < Builtin.nextslicecap k 0) := by omega
      have hk' : ¬ k ≤ 0 := by omega
      simp [Builtin.append_, run_underlying ht, run_underlying htn, sizeOf, typeInfo, hi, hz0, hz1, hz2, asInt, asIntOf, hwr, hneg, h48, hk, h63, hfit', zeroValue, hcc, Question.forced, Builtin.firstCells, newRow, grownCap]
  · by_cases hroom : zs.length + k ≤ cap
    · have hst := run_storeCells_at Tryd.prog g zs.length 5 (List.replicate k (.int .u8 0)) 0 cur w hg (by simp; omega) (by intro v hv; obtain ⟨_, rfl⟩ := List.mem_replicate.1 hv; rfl)
      simp only [Nat.add_zero, List.length_replicate] at hst
      have hr : (Builtin.append_ #[27, 3] ty #[.slice (some ⟨g, 0, none⟩) zs.length cap, .int .i64 (k : Int)]).run Tryd.prog w = .ok (.slice (some ⟨g, 0, none⟩) (zs.length + k) cap) (w.setRow g (cur.toList.take zs.length ++ List.replicate k (Value.int .u8 0) ++ cur.toList.drop (zs.length + k)).toArray) := by
        by_cases hk : k = 0
        · subst hk
          simp only [List.replicate_zero, List.append_nil, Nat.add_zero, List.take_append_drop, Array.toArray_toList] at hst ⊢
          simp [Builtin.append_, run_underlying ht, run_underlying htn, sizeOf, typeInfo, hi, hz1, hz2, asInt, asIntOf, IntKind.wrap_i64, hnc, Addr.add_lit, hst]
        · simp [Builtin.append_, run_underlying ht, run_underlying htn, sizeOf, typeInfo, hi, hz0, hz1, hz2, asInt, asIntOf, hwr, hneg, h48, hk, hroom, zeroValue, hcc, zeroCells_one, Addr.add_lit, hst]
      refine ⟨_, _, hr, ⟨by simp, .inr ⟨g, cap, _, by simp, hbg, setRow_heap w g cur _ 5 _ hg, by simp; exact hroom, hcm, ?_, ?_⟩⟩, ⟨rfl, rfl, rfl, by simp, fun j _ hj => setRow_other w g j _ (fun e => hj (by simp [Value.ownBlock, e]))⟩⟩
      · simp only [List.size_toArray, List.length_append, List.length_take, List.length_drop, List.length_replicate, Array.length_toList]
        omega
      · have ht2 : cur.toList.take zs.length = zs.map (Value.int .u8) := by rw [← htake, Nat.mul_one]
        rw [ht2]
        simp only [List.map_append, List.map_replicate]
        rw [List.take_left' (by simp)]
    · have holds := hown.cells (g := g) rfl
      have hold : (Builtin.firstCells 1 zs.length (.slice (some ⟨g, 0, none⟩) zs.length cap)).run Tryd.prog w.drew = .ok (zs.map (Value.int .u8)).toArray w.drew := run_firstCells_some w.drew 1 zs.length ⟨g, 0, none⟩ zs.length cap (zs.map (Value.int .u8)) (by simp) holds
      have hgr := grown cap (by omega) (Value.ownBlock (.slice (some ⟨g, 0, none⟩) zs.length cap))
      refine ⟨_, _, ?_, hgr.1, hgr.2⟩
      have h63 : ¬ (9223372036854775807 < (zs.length : Int) + (k : Int)) := by omega
      have hfit := growslice_fits (need := zs.length + k) (old := cap) (bytes := 1) (by omega) (by omega)
      have hfit' : ¬ (281474976710656 < Builtin.nextslicecap (zs.length + k) cap) := by omega
      have hk : ¬ k = 0 := by omega
      simp [Builtin.append_, run_underlying ht, run_underlying htn, sizeOf, typeInfo, hi, hz0, hz1, hz2, asInt, asIntOf, hwr, hneg, h48, hk, h63, hfit', hroom, zeroValue, hcc, Question.forced, hold, newRow, grownCap]

theorem wpList_append_zeros {w : World} {ops : Array Oper} {rest : List Oper} {o : Oper} {a : Act} {Q : Exit → Act → World → Prop} (hgd : o.guard = none) (s x : Operand)
    (ho : o.op = .call { callee := .builtin .append, args := #[s, x], argTypes := #[27, 3] }) (base : Nat) (v : Value) (zs : List Int) (hs : a.eval s = v) (hown : Ob w base v zs)
    (k : Nat) (hx : a.eval x = .int .i64 (k : Int)) (hb : zs.length + k ≤ 70368744177664) (hbase : base ≤ w.heap.size)
    (h : ∀ v' w', Ob w' base v' (zs ++ List.replicate k 0) → w.grownBy w' v.ownBlock → wpList Tryd.prog ops Q rest (a.put o.dst v') w') : wpList Tryd.prog ops Q (o :: rest) a w := by
  refine wpList_plain hgd fun K hK => ?_
  obtain ⟨v', w', hr, h2, h3⟩ := run_append_zeros (w := w) o.type base v zs hown k hb hbase
  unfold Oper.wp execOp
  simp only [ho, resolve, invoke, builtin, Sem.run_bind, Sem.run_pure, Result.andThen_ok, List.map_toArray, List.map_cons, List.map_nil, hs, hx, hr]
  exact hK _ _ (h v' w' h2 h3)

/-- The bytes of a string. -/
def bytesOf (s : ByteArray) : List Int := s.data.toList.map fun b => (b.toNat : Int)
theorem bytesOf_len (s : ByteArray) : (bytesOf s).length = s.size := by
  simp [bytesOf]
theorem bytesOf_byte (s : ByteArray) : ∀ z ∈ bytesOf s, 0 ≤ z ∧ z ≤ 255 := by
  intro z hz
  obtain ⟨b, _, rfl⟩ := List.mem_map.1 hz
  have := b.toNat_lt
  omega
theorem rd_conv (w : World) (s : ByteArray) (c : Nat) (fr : Nat × Nat) (hs : s.size ≤ 140737488355328) (hc : s.size ≤ c) (hm : c ≤ 9223372036854775807) :
    Rd (w.alloc (.cells (bytesRow s c) 5 fr)) (some ⟨w.heap.size, 0, none⟩) s.size c (bytesOf s) := by
  refine ⟨(bytesOf_len s).symm, hc, hm, hs, fun i => ?_, fun _ => ⟨w.heap.size, 0, rfl, by simp, fun i hi => ?_⟩⟩
  · by_cases hi : i < (bytesOf s).length
    · rw [List.getElem?_eq_getElem hi]; exact bytesOf_byte s _ (List.getElem_mem hi)
    · rw [List.getElem?_eq_none (by omega)]; simp
  · rw [World.cell?_alloc_mark]
    simp [bytesRow, bytesOf, Array.getElem?_append, hi]
end Go.Proofs.YtpgogpphobafoaaDoor
/-
  What both PutTexts answer, for every slice of bytes and every string that is not too long.
-/
namespace Go.Proofs.YtpgogpphobafoaaDoor
open Go.RowKit

theorem specPutVar_none (a : Option Addr) (n c : Nat) (zs : List Int) (m : Int) (w : World) (h : Rd w a n c zs) (hlen : n ≤ 1099511627776) (hr : pv zs m = none) :
    Calls Tryd.prog 29 #[.slice a n c, .int .i64 m] w fun e w' => e = .returned (.tuple #[.slice none 0 0, .bool false]) ∧ Below w.heap.size w w' := by
  refine (specPutVar_any a n c zs m w h hlen).mono ?_
  rintro e w' ⟨hb, ⟨_, he⟩ | ⟨v, zs', hr', _⟩⟩
  · exact ⟨he, hb⟩
  · rw [hr] at hr'; cases hr'
theorem specPutVar_some (a : Option Addr) (n c : Nat) (zs out : List Int) (m : Int) (w : World) (h : Rd w a n c zs) (hlen : n ≤ 1099511627776) (hr : pv zs m = some out) :
    Calls Tryd.prog 29 #[.slice a n c, .int .i64 m] w fun e w' => ∃ v, e = .returned (.tuple #[v, .bool true]) ∧ Ob w' w.heap.size v out ∧ Below w.heap.size w w' := by
  refine (specPutVar_any a n c zs m w h hlen).mono ?_
  rintro e w' ⟨hb, ⟨hr', _⟩ | ⟨v, zs', hr', he, ho⟩⟩
  · rw [hr] at hr'; cases hr'
  · rw [hr] at hr'; cases hr'
    exact ⟨v, he, ho, hb⟩
theorem Ob.drew {w : World} {B : Nat} {v : Value} {zs : List Int} (h : Ob w B v zs) : Ob w.drew B v zs := h
/-- What PutText answers. -/
def pt (zs : List Int) (s : ByteArray) : Option (List Int) := if (zs ++ enc s.size ++ bytesOf s).length ≤ 4096 then some (zs ++ enc s.size ++ bytesOf s) else none

set_option maxHeartbeats 800000 in
theorem specPutText_any (a : Option Addr) (n c : Nat) (zs : List Int) (s : ByteArray) (w : World) (h : Rd w a n c zs) (hlen : n ≤ 1099511627776) (hs : s.size ≤ 1048576) :
    Calls Tryd.prog 30 #[.slice a n c, .string s] w fun e w' => Put w (pt zs s) e w' := by
  have HR := hid h
  clear h
  by_cases h1 : (zs ++ enc s.size).length ≤ 4096
  · have HP := hid (pv_ok zs s.size (by omega) (by omega) h1)
    have hol : (zs ++ enc s.size).length ≤ 4096 := h1
    have HT : Hid (pt zs s = if (zs ++ enc s.size).length + s.size ≤ 4096 then some (zs ++ enc s.size ++ bytesOf s) else none) := by
      show pt zs s = _
      unfold pt
      rw [show (zs ++ enc s.size ++ bytesOf s).length = (zs ++ enc s.size).length + s.size from by rw [List.length_append, bytesOf_len]]
    clear h1
    generalize zs ++ enc s.size = out at HP hol HT
    generalize hL : out.length = L at HT hol
    have HL := hid hL
    clear hL
    have hcv := fun w => run_bytes_of_string (P := Tryd.prog) w 9 27 5 s Tryd.underlying9 Tryd.underlying27 Tryd.underlying5
    by_cases hbig : (4096 : Int) - (L : Int) < (s.size : Int)
    · have HN : Hid (pt zs s = none) := by show pt zs s = none; rw [HT.out]; exact if_neg (by omega)
      go_enter Tryd.func30, Tryd.ntmps30
      go_wp2_with fail
      refine (specPutVar_some a n c zs out _ w HR.out hlen HP.out).mono ?_
      rintro e w1 ⟨v, rfl, ho, hb1⟩
      obtain ⟨a1, c1, hv⟩ := ho.shape
      have HO := hid ho
      rw [HL.out] at hv
      clear ho
      rw [hv]
      go_wp2
      go_ret2
      exact ⟨hb1, .inl ⟨HN.out, rfl⟩⟩
    · have HN : Hid (pt zs s = some (out ++ bytesOf s)) := by show pt zs s = some (out ++ bytesOf s); rw [HT.out]; exact if_pos (by omega)
      go_enter Tryd.func30, Tryd.ntmps30
      go_wp2_with fail
      refine (specPutVar_some a n c zs out _ w HR.out hlen HP.out).mono ?_
      rintro e w1 ⟨v, rfl, ho, hb1⟩
      obtain ⟨a1, c1, hv⟩ := ho.shape
      rw [HL.out] at hv
      have HO : Hid (Ob w1 w.heap.size (.slice a1 L c1) out) := by show Ob w1 w.heap.size (.slice a1 L c1) out; rw [← hv]; exact ho
      clear ho
      rw [hv]
      clear hv
      go_wp2_with (at_builtin; refine wpList_append_rd rfl _ _ rfl w.heap.size _ out rfl ?own _ _ _ (bytesOf s) rfl ?src ?b ?base ?_)
      case own => exact HO.out.alloc _
      case src => exact rd_conv _ s _ _ (by omega) (grownCap_ge _ _ _ _) (by have := grownCap_le_maxLen w1 s.size 0 5 (by unfold maxLen; omega); unfold maxLen at this; omega)
      case b => rw [HL.out, bytesOf_len]; omega
      case base => have := hb1.size; simp; omega
      intro v2 w2 hown2 hg2
      have hb2 : Below w.heap.size w w2 := Ob.below (HO.out.alloc _).drew ((hb1.alloc hb1.size _).drew) (by have := hb1.size; simp; omega) hg2
      have HO2 := hid hown2
      obtain ⟨a2, c2, hv2⟩ := hown2.shape
      clear hown2 hg2
      go_wp2
      go_ret2
      exact ⟨hb2, .inr ⟨v2, out ++ bytesOf s, HN.out, rfl, HO2.out⟩⟩
  · have HP := hid (pv_long zs s.size (by omega))
    have HN : Hid (pt zs s = none) := by
      show pt zs s = none
      unfold pt
      rw [show (zs ++ enc s.size ++ bytesOf s).length = (zs ++ enc s.size).length + s.size from by rw [List.length_append, bytesOf_len]]
      exact if_neg (by omega)
    go_enter Tryd.func30, Tryd.ntmps30
    go_wp2_with (go_at_call 29; refine (specPutVar_none a n c zs _ w HR.out hlen HP.out).mono ?_; rintro e w1 ⟨rfl, hb1⟩)
    go_ret2
    exact ⟨hb1, .inl ⟨HN.out, rfl⟩⟩

set_option maxHeartbeats 400000 in
theorem text_any (g most : Nat) (st : Option (List Int)) (s : ByteArray) (w : World) (h : Wr w g most st) (he : Err w 1) (he2 : Err w 2) (hg : 1 < g) (hs : s.size ≤ 1048576) :
    Calls Tryd.prog 65 #[.pointer (some ⟨g, 0, none⟩), .string s] w fun e w' => e = .returned (.tuple #[]) ∧ Below g w w' ∧ Wr w' g most (addSt most (numSt most st s.size) (bytesOf s)) := by
  have hlt := h.lt
  have HW := hid h
  have HE := hid he
  have HE2 := hid he2
  clear h he he2
  have hcv := fun w => run_bytes_of_string (P := Tryd.prog) w 9 27 5 s Tryd.underlying9 Tryd.underlying27 Tryd.underlying5
  go_enter Tryd.func65, Tryd.ntmps65
  go_wp2_with (go_at_call 64; refine (number_any g most st s.size w HW.out HE.out HE2.out hg).mono ?_; rintro e w1 ⟨rfl, hb1, hw1⟩)
  have HW1 := hid hw1
  have HB1 := hid hb1
  clear hw1 hb1
  have hlt1 : g ≤ w1.heap.size := Nat.le_of_lt HW1.out.lt
  refine (add_any g most (numSt most st s.size) _ s.size _ (bytesOf s) _ ?gw ?ge ?gs (by omega)).mono ?_
  case gw => exact HW1.out.alloc _
  case ge => exact (HE.out.below HB1.out hg).below ((Below.refl g w1).alloc hlt1 _).drew hg
  case gs => exact rd_conv _ s _ _ (by omega) (grownCap_ge _ _ _ _) (by have := grownCap_le_maxLen w1 s.size 0 5 (by unfold maxLen; omega); unfold maxLen at this; omega)
  rintro e w2 ⟨rfl, hb2, hw2⟩
  have HB2 := hid hb2
  have HW2 := hid hw2
  clear hb2 hw2
  go_wp2
  go_end0
  exact ⟨rfl, HB1.out.trans (((Below.refl g w1).alloc hlt1 _).drew.trans HB2.out), HW2.out⟩
theorem addSt_pt (zs : List Int) (s : ByteArray) (hs : s.size ≤ 1048576) : addSt 4096 (numSt 4096 (addSt 4096 (some []) zs) s.size) (bytesOf s) = pt zs s := by
  unfold numSt
  rw [if_pos ⟨by omega, by omega⟩, addSt_addSt, addSt_addSt, addSt_start]
  unfold pt
  rw [List.append_assoc]

end Go.Proofs.YtpgogpphobafoaaDoor
/-
  What both Fills answer, for every slice of bytes and every size.
-/
namespace Go.Proofs.YtpgogpphobafoaaDoor
open Go.RowKit

/-- What Fill answers. -/
def fl (zs : List Int) (m : Int) : Option (List Int) := if (zs.length : Int) ≤ m ∧ m ≤ 4096 then some (zs ++ List.replicate (m - zs.length).toNat 0) else none
theorem fl_bad (zs : List Int) (m : Int) (h : m < zs.length ∨ 4096 < m) : fl zs m = none := by unfold fl; exact if_neg (by omega)
theorem fl_ok (zs : List Int) (k : Nat) (h : zs.length + k ≤ 4096) : fl zs ((zs.length : Int) + (k : Int)) = some (zs ++ List.replicate k 0) := by
  unfold fl
  rw [if_pos (by omega)]
  congr 3
  omega

set_option maxHeartbeats 800000 in
theorem specFill_any (a : Option Addr) (n c : Nat) (zs : List Int) (m : Int) (w : World) (h : Rd w a n c zs) (hlen : n ≤ 1099511627776) :
    Calls Tryd.prog 31 #[.slice a n c, .int .i64 m] w fun e w' => Put w (fl zs m) e w' := by
  have HN : Hid (n = zs.length) := h.1
  have HR := hid h
  clear h
  by_cases h0 : m < 0
  · have HF : Hid (fl zs m = none) := fl_bad zs m (by omega)
    go_enter Tryd.func31, Tryd.ntmps31
    go_wp2
    go_ret2
    exact ⟨Below.refl _ _, .inl ⟨HF.out, rfl⟩⟩
  · by_cases h1 : 4096 < m
    · have HF : Hid (fl zs m = none) := fl_bad zs m (by omega)
      go_enter Tryd.func31, Tryd.ntmps31
      go_wp2
      go_ret2
      exact ⟨Below.refl _ _, .inl ⟨HF.out, rfl⟩⟩
    · by_cases h2 : m < (n : Int)
      · have HF : Hid (fl zs m = none) := fl_bad zs m (by rw [← HN.out]; exact .inl h2)
        go_enter Tryd.func31, Tryd.ntmps31
        go_wp2
        go_ret2
        exact ⟨Below.refl _ _, .inl ⟨HF.out, rfl⟩⟩
      · obtain ⟨k, hk⟩ : ∃ k : Nat, m - (n : Int) = (k : Int) := ⟨(m - (n : Int)).toNat, by omega⟩
        have HF : Hid (fl zs m = some (zs ++ List.replicate k 0)) := by
          show fl zs m = some (zs ++ List.replicate k 0)
          have := fl_ok zs k (by rw [← HN.out]; omega)
          rw [← HN.out] at this
          rw [← this]; congr 1; omega
        have HK := hid hk
        have hkb : k ≤ 4096 := by omega
        clear hk
        go_enter Tryd.func31, Tryd.ntmps31
        go_wp2_with (at_builtin; refine wpList_append_rd rfl _ _ rfl w.heap.size _ [] rfl (ob_new w w.heap.size (Nat.le_refl _)) a n c zs rfl ?src ?b ?base ?_)
        case src => exact HR.out.kept ((Below.refl _ _).alloc (Nat.le_refl _) _)
        case b => rw [← HN.out]; omega
        intro v1 w1 hown1 hg1
        have hb1 : Below w.heap.size w w1 := Ob.below (ob_new w w.heap.size (Nat.le_refl _)) ((Below.refl _ _).alloc (Nat.le_refl _) _) (by simp) hg1
        have HO : Hid (Ob w1 w.heap.size v1 zs) := by show Ob w1 w.heap.size v1 zs; simpa using hown1
        clear hown1 hg1
        go_wp2_with (at_builtin; refine wpList_append_zeros rfl _ _ rfl w.heap.size _ zs rfl HO.out k (congrArg (Value.int .i64) HK.out) ?b2 ?base2 ?_)
        case b2 => rw [← HN.out]; omega
        case base2 => exact hb1.size
        intro v2 w2 hown2 hg2
        have hb2 : Below w.heap.size w w2 := Ob.below HO.out hb1 hb1.size hg2
        have HO2 := hid hown2
        clear hown2 hg2
        go_wp2
        go_ret2
        exact ⟨hb2, .inr ⟨v2, _, HF.out, rfl, HO2.out⟩⟩
/-- What fill does to the writer's state. -/
def fillSt (most : Nat) : Option (List Int) → Int → Option (List Int)
  | none, _ => none
  | some zs, m => if (zs.length : Int) ≤ m ∧ m ≤ most then some (zs ++ List.replicate (m - zs.length).toNat 0) else none

theorem rd_zero (w : World) (k : Nat) (hk : k ≤ 1048576) : Rd (w.alloc (.cells (madeCells #[.int .u8 0] k) 5)) (some ⟨w.heap.size, 0, none⟩) k k (List.replicate k 0) := by
  refine ⟨by simp, Nat.le_refl _, by omega, by omega, fun i => ?_, fun _ => ⟨w.heap.size, 0, rfl, by simp, fun i hi => ?_⟩⟩
  · by_cases hi : i < k
    · simp [hi]
    · rw [List.getElem?_eq_none (by simp; omega)]; simp
  · rw [World.cell?_alloc_at (hn := rfl)]
    simp [madeCells, hi, Nat.mod_one]

set_option maxHeartbeats 800000 in
theorem fill_any (g most : Nat) (st : Option (List Int)) (m : Int) (w : World) (h : Wr w g most st) (hm4 : most ≤ 1048576) (he : Err w 1) (he2 : Err w 0) (hg : 1 < g) :
    Calls Tryd.prog 38 #[.pointer (some ⟨g, 0, none⟩), .int .i64 m] w fun e w' => e = .returned (.tuple #[]) ∧ Below g w w' ∧ Wr w' g most (fillSt most st m) := by
  have HW := hid h
  have HE := hid he
  have hlt := h.lt
  obtain ⟨v, ev, zs, c0, c1, c2, f0, f2, ho, hl, hm, hb, hst⟩ := h
  obtain ⟨t, x, hx⟩ := he2
  obtain ⟨va, vc, hv⟩ := ho.shape
  have HO := hid ho
  have HB := hid hb
  have HV := hid hv
  rw [hv] at c0
  generalize hL : zs.length = L at hv hl c0
  have HL := hid hL
  clear ho hb hL hv he
  by_cases hbad : m < (L : Int) ∨ (most : Int) < m
  · rcases hst with ⟨rfl, rfl⟩ | ⟨⟨y, z, rfl⟩, rfl⟩
    · have HA : Hid (fillSt most (some zs) m = none) := by
        show fillSt most (some zs) m = none
        unfold fillSt
        exact if_neg (by rw [HL.out]; omega)
      rcases (by omega : m < (L : Int) ∨ (¬ m < (L : Int) ∧ (most : Int) < m)) with hb1 | ⟨hb1, hb3⟩
      all_goals
        clear hbad
        go_enter Tryd.func38, Tryd.ntmps38
        go_wp2_with (go_at_call 66; refine (fail_set g t x _ c2 f2).mono ?_; rintro e w1 ⟨rfl, hw1⟩)
        go_end0
        refine ⟨rfl, Below.setCell (p := ⟨g, 2, none⟩) (Below.refl g w) (Nat.le_refl g) _, ?_⟩
        rw [HA.out]
        exact wr_failed (by rw [c0, HV.out, HL.out]) c1 c2 f0 f2 HO.out (by rw [HL.out]; exact hl) hm HB.out
    · rcases (by omega : m < (L : Int) ∨ (¬ m < (L : Int) ∧ (most : Int) < m)) with hb1 | ⟨hb1, hb3⟩
      all_goals
        clear hbad
        go_enter Tryd.func38, Tryd.ntmps38
        go_wp2_with (go_at_call 66; refine (fail_keep g t x _ y z c2).mono ?_; rintro e w1 ⟨rfl, rfl⟩)
        go_end0
        exact ⟨rfl, Below.refl _ _, HW.out⟩
  · have hb1 : ¬ m < (L : Int) := by omega
    have hb2 : ¬ (most : Int) < m := by omega
    clear hbad
    rcases hst with ⟨rfl, rfl⟩ | ⟨⟨y, z, rfl⟩, rfl⟩
    · obtain ⟨k, hk⟩ : ∃ k : Nat, m - (L : Int) = (k : Int) := ⟨(m - (L : Int)).toNat, by omega⟩
      have hkb : k ≤ 1048576 := by omega
      have HK := hid hk
      clear hk
      have HA : Hid (fillSt most (some zs) m = addSt most (some zs) (List.replicate k 0)) := by
        show fillSt most (some zs) m = addSt most (some zs) (List.replicate k 0)
        have := HK.out
        have e1 : fillSt most (some zs) m = if (zs.length : Int) ≤ m ∧ m ≤ most then some (zs ++ List.replicate (m - zs.length).toNat 0) else none := rfl
        have e2 : addSt most (some zs) (List.replicate k 0) = if zs.length + (List.replicate k (0 : Int)).length ≤ most then some (zs ++ List.replicate k 0) else none := rfl
        rw [e1, e2, HL.out, this, if_pos (by omega), if_pos (by simp; omega)]
        simp
      have hmk : ∀ w, (Instr.makeSlice 27 (.int .i64 (m - (L : Int))) (.int .i64 (m - (L : Int)))).run Tryd.prog w = .ok (.slice (some ⟨w.heap.size, 0, none⟩) k k) (w.alloc (.cells (madeCells #[.int .u8 0] k) 5)) := fun w => by
        rw [HK.out]
        exact run_make_row' (P := Tryd.prog) 27 5 (.int .u8 0) 1 Tryd.underlying27 infoU8 rfl .i64 .i64 k (by omega) (by omega) w
      have HB0 := hid (show Below g w (w.alloc (.cells (madeCells #[.int .u8 0] k) 5)) from (Below.refl _ _).alloc (Nat.le_of_lt hlt) _)
      go_enter Tryd.func38, Tryd.ntmps38
      go_wp2_with (go_at_call 56; refine (add_any g most (some zs) _ k k (List.replicate k 0) _ (HW.out.alloc _) (HE.out.below HB0.out hg) (rd_zero w k hkb) (by omega)).mono ?_; rintro e w1 ⟨rfl, hb, hw⟩)
      go_end0
      exact ⟨rfl, HB0.out.trans hb, by rw [HA.out]; exact hw⟩
    · go_enter Tryd.func38, Tryd.ntmps38
      go_wp2
      go_end0
      exact ⟨rfl, Below.refl _ _, HW.out⟩
theorem fillSt_fl (zs : List Int) (m : Int) : fillSt 4096 (addSt 4096 (some []) zs) m = fl zs m := by
  rw [addSt_start]
  by_cases h : zs.length ≤ 4096
  · rw [if_pos h]; rfl
  · rw [if_neg h, fl_bad zs m (by omega)]; rfl

end Go.Proofs.YtpgogpphobafoaaDoor
/-
  A page's bytes as plain data; PageBytes of the specification.
-/
namespace Go.Proofs.YtpgogpphobafoaaDoor
open Go.RowKit
def pgHead (p : PG) : List Int := (if p.kids.length = 0 then [76] else [66]) ++ enc p.keys.length ++ (if p.kids.length = 0 then [] else enc (iAt p.kids 0))
def pgPart (p : PG) (i : Nat) : List Int := enc (sAt p.keys i).size ++ bytesOf (sAt p.keys i) ++ (if p.kids.length = 0 then enc (sAt p.vals i).size ++ bytesOf (sAt p.vals i) else enc (iAt p.kids (i + 1)))
def pgBody (p : PG) : Nat → List Int
  | 0 => pgHead p
  | j + 1 => pgBody p j ++ pgPart p j
def pgRaw (p : PG) : List Int := pgBody p p.keys.length
def pgFull (p : PG) : List Int := pgRaw p ++ List.replicate (512 - (pgRaw p).length) 0
def pgBytes (p : PG) : Option (List Int) := if pgOk p = true then some (pgFull p) else none
theorem sOkF_all (ss : List ByteArray) : ∀ f k, sOkF ss f k = true → ∀ i, k ≤ i → i < k + f → kOk (ss[i]?.getD ⟨#[]⟩) = true
  | 0, k, _, i, h1, h2 => by omega
  | f + 1, k, h, i, h1, h2 => by
    simp only [sOkF, Bool.and_eq_true] at h
    by_cases e : i = k
    · rw [e]; exact h.1.1
    · exact sOkF_all ss f (k + 1) h.2 i (by omega) (by omega)
theorem all_at {α : Type} {l : List α} {f : α → Bool} (h : l.all f = true) (d : α) {i : Nat} (hi : i < l.length) : f (l[i]?.getD d) = true := by
  have := (List.all_eq_true.1 h) l[i] (List.getElem_mem hi)
  simpa [hi] using this
/-- What a right page is, in numbers. -/
structure PgF (p : PG) : Prop where
  nk : p.keys.length ≤ 4
  ks : ∀ i, i < p.keys.length → (sAt p.keys i).size ≤ 16
  lf : p.kids.length = 0 → p.vals.length = p.keys.length ∧ ∀ i, i < p.vals.length → (sAt p.vals i).size ≤ 60
  br : ¬ p.kids.length = 0 → p.kids.length = p.keys.length + 1 ∧ ∀ i, i < p.kids.length → 2 ≤ iAt p.kids i ∧ iAt p.kids i < 400
theorem pgOk_facts {p : PG} (h : pgOk p = true) : PgF p := by
  simp only [pgOk, Bool.and_eq_true] at h
  obtain ⟨h1, h2⟩ := h
  have hks : ∀ i, i < p.keys.length → (sAt p.keys i).size ≤ 16 := by
    intro i hi
    have := sOkF_all _ _ _ h1 i (Nat.zero_le _) (by omega)
    simp [kOk] at this
    exact this.2
  by_cases h0 : p.kids.length = 0
  · rw [if_pos h0] at h2
    simp only [pgLeaf, Bool.and_eq_true, decide_eq_true_eq] at h2
    obtain ⟨h3, ⟨_, h4⟩, h5⟩ := h2
    refine ⟨h4, hks, fun _ => ⟨h5, fun i hi => ?_⟩, fun h => absurd h0 h⟩
    have := all_at h3 ⟨#[]⟩ hi
    simpa [vOk, sAt] using this
  · rw [if_neg h0] at h2
    simp only [pgBranch, Bool.and_eq_true, decide_eq_true_eq] at h2
    obtain ⟨h3, ⟨⟨_, h4⟩, h5⟩, h6⟩ := h2
    refine ⟨by omega, hks, fun h => absurd h h0, fun _ => ⟨by omega, fun i hi => ?_⟩⟩
    have := all_at h3 0 hi
    simpa [kidOk, iAt] using this
theorem pgPart_len {p : PG} (h : PgF p) {i : Nat} (hi : i < p.keys.length) : (pgPart p i).length ≤ 90 := by
  have h1 := h.ks i hi
  have e1 := enc_len (sAt p.keys i).size
  unfold pgPart
  by_cases h0 : p.kids.length = 0
  · obtain ⟨h2, h3⟩ := h.lf h0
    have h4 := h3 i (by omega)
    have e2 := enc_len (sAt p.vals i).size
    rw [if_pos h0]
    simp only [List.length_append, bytesOf_len]
    omega
  · have e2 := enc_len (iAt p.kids (i + 1))
    rw [if_neg h0]
    simp only [List.length_append, bytesOf_len]
    omega
theorem pgHead_len (p : PG) : (pgHead p).length ≤ 15 := by
  have e1 := enc_len p.keys.length
  have e2 := enc_len (iAt p.kids 0)
  unfold pgHead
  split
  · simp; omega
  · simp; omega
theorem pgBody_len {p : PG} (h : PgF p) : ∀ j, j ≤ p.keys.length → (pgBody p j).length ≤ 15 + j * 90
  | 0, _ => by simpa [pgBody] using pgHead_len p
  | j + 1, hj => by
    have h1 := pgBody_len h j (by omega)
    have h2 := pgPart_len h (show j < p.keys.length by omega)
    rw [pgBody, List.length_append]
    omega
theorem pgPart_byte {p : PG} (h : PgF p) {i : Nat} (hi : i < p.keys.length) : ∀ z ∈ pgPart p i, 0 ≤ z ∧ z ≤ 255 := by
  have h1 := h.ks i hi
  unfold pgPart
  refine byte_append (byte_append (enc_byte _ (by omega) (by omega)) (bytesOf_byte _)) ?_
  by_cases h0 : p.kids.length = 0
  · obtain ⟨h2, h3⟩ := h.lf h0
    have h4 := h3 i (by omega)
    rw [if_pos h0]
    exact byte_append (enc_byte _ (by omega) (by omega)) (bytesOf_byte _)
  · obtain ⟨h2, h3⟩ := h.br h0
    have h4 := h3 (i + 1) (by omega)
    rw [if_neg h0]
    exact enc_byte _ (by omega) (by omega)
theorem pgHead_byte {p : PG} (h : PgF p) : ∀ z ∈ pgHead p, 0 ≤ z ∧ z ≤ 255 := by
  have h1 := h.nk
  unfold pgHead
  by_cases h0 : p.kids.length = 0
  · rw [if_pos h0, if_pos h0]
    exact byte_append (byte_append (by intro z hz; simp at hz; omega) (enc_byte _ (by omega) (by omega))) (by intro z hz; cases hz)
  · obtain ⟨h2, h3⟩ := h.br h0
    have h4 := h3 0 (by omega)
    rw [if_neg h0, if_neg h0]
    exact byte_append (byte_append (by intro z hz; simp at hz; omega) (enc_byte _ (by omega) (by omega))) (enc_byte _ (by omega) (by omega))
theorem pgBody_byte {p : PG} (h : PgF p) : ∀ j, j ≤ p.keys.length → ∀ z ∈ pgBody p j, 0 ≤ z ∧ z ≤ 255
  | 0, _ => by rw [pgBody]; exact pgHead_byte h
  | j + 1, hj => by rw [pgBody]; exact byte_append (pgBody_byte h j (by omega)) (pgPart_byte h (show j < p.keys.length by omega))
/-- An owned row of bytes, as a slice that is read. -/
theorem Ob.rdS {w : World} {B : Nat} {v : Value} {zs : List Int} (h : Ob w B v zs) (hl : ∀ z ∈ zs, 0 ≤ z ∧ z ≤ 255) (hb : zs.length ≤ 1000) : ∃ a n c, v = .slice a n c ∧ Hid (Rd w a n c zs) ∧ n ≤ 1000 := by
  obtain ⟨a, c, e, hr, _⟩ := h.rd (byte_at hl) (by omega)
  exact ⟨a, _, c, e, hr, hb⟩
theorem Put.got {w w' : World} {r : Option (List Int)} {e : Ending} {zs : List Int} (h : Put w r e w') (hr : r = some zs) : ∃ v, e = .returned (.tuple #[v, .bool true]) ∧ Ob w' w.heap.size v zs ∧ Below w.heap.size w w' := by
  obtain ⟨hb, ⟨h1, _⟩ | ⟨v, zs', h1, h2, h3⟩⟩ := h
  · rw [hr] at h1; cases h1
  · rw [hr] at h1; cases h1
    exact ⟨v, h2, h3, hb⟩
/-- What PageBytes holds in hand while it writes. -/
structure Pw1 (w v : World) (x : Nat) (ka : Option Addr) (kn kc : Nat) (va : Option Addr) (vn vc : Nat) (ia : Option Addr) (jn ic : Nat) (p : PG) : Prop where
  be : Below w.heap.size w v
  bk : Bk v x 30 [.slice ka kn kc, .slice va vn vc, .slice ia jn ic]
  pg : Pgr v (fun _ => True) ka kn kc va vn vc ia jn ic p
theorem Pw1.below {w v v' : World} {x : Nat} {ka : Option Addr} {kn kc : Nat} {va : Option Addr} {vn vc : Nat} {ia : Option Addr} {jn ic : Nat} {p : PG} (h : Pw1 w v x ka kn kc va vn vc ia jn ic p) (hb : Below v.heap.size v v') : Pw1 w v' x ka kn kc va vn vc ia jn ic p :=
  ⟨h.be.trans (hb.mono h.be.size), h.bk.below hb, h.pg.below hb⟩
theorem Pw1.cells {w v : World} {x : Nat} {ka : Option Addr} {kn kc : Nat} {va : Option Addr} {vn vc : Nat} {ia : Option Addr} {jn ic : Nat} {p : PG} (h : Pw1 w v x ka kn kc va vn vc ia jn ic p) : v.cell? ⟨x, 0, none⟩ = some (.slice ka kn kc) ∧ v.cell? ⟨x, 1, none⟩ = some (.slice va vn vc) ∧ v.cell? ⟨x, 2, none⟩ = some (.slice ia jn ic) :=
  ⟨h.bk.cell (j := 0) rfl, h.bk.cell (j := 1) rfl, h.bk.cell (j := 2) rfl⟩
set_option maxHeartbeats 8000000 in
set_option maxRecDepth 20000 in
theorem specPageBytes_any (S : Nat → Prop) (ka : Option Addr) (kn kc : Nat) (va : Option Addr) (vn vc : Nat) (ia : Option Addr) (jn ic : Nat) (p : PG) (w : World) (h : Pgr w S ka kn kc va vn vc ia jn ic p) :
    Calls Tryd.prog 8 #[.agg #[.slice ka kn kc, .slice va vn vc, .slice ia jn ic]] w fun e w' => Put w (pgBytes p) e w' := by
  have hb0 := below_new (o := .cells #[.slice ka kn kc, .slice va vn vc, .slice ia jn ic] 30) (w := w) (Below.refl _ _)
  have L0 : Hid (Pw1 w (w.alloc (.cells #[.slice ka kn kc, .slice va vn vc, .slice ia jn ic] 30)) w.heap.size ka kn kc va vn vc ia jn ic p) := by
    have hp := h.below hb0
    exact ⟨hb0, Bk.new w 30 [.slice ka kn kc, .slice va vn vc, .slice ia jn ic], Rw.mono hp.hk (fun _ _ _ => trivial), Rw.mono hp.hv (fun _ _ _ => trivial), Rw.mono hp.hi (fun _ _ _ => trivial)⟩
  have HNK := hid (Rw.len h.hk).1
  have HNV := hid (Rw.len h.hv).1
  have HNI := hid (Rw.len h.hi).1
  have bk := (Rw.len h.hk).2
  have bv := (Rw.len h.hv).2
  have bi := (Rw.len h.hi).2
  clear h hb0
  obtain ⟨c0, c1, c2⟩ := L0.out.cells
  go_enter Tryd.func8, Tryd.ntmps8
  go_wp2_with fail
  refine (specPageOk_any _ ka kn kc va vn vc ia jn ic p _ L0.out.pg).mono ?_
  generalize w.alloc (.cells #[.slice ka kn kc, .slice va vn vc, .slice ia jn ic] 30) = U at *
  rintro e w1 ⟨rfl, hb1⟩
  have L1 := hid (L0.out.below hb1)
  clear hb1 L0 c0 c1 c2
  have HP : Hid (pgBytes p = if pgOk p = true then some (pgFull p) else none) := rfl
  cases hok : pgOk p with
  | false =>
    have HN : Hid (pgBytes p = none) := by show _ = _; rw [HP.out, hok]; rfl
    go_wp2
    go_ret2
    exact ⟨L1.out.be, .inl ⟨HN.out, rfl⟩⟩
  | true =>
    have HN : Hid (pgBytes p = some (pgFull p)) := by show _ = _; rw [HP.out, hok]; rfl
    have HF := hid (pgOk_facts hok)
    have hk4 : kn ≤ 4 := by rw [HNK.out]; exact HF.out.nk
    clear hok HP
    by_cases hi0 : jn = 0
    · subst hi0
      have h0 : p.kids.length = 0 := HNI.out.symm
      have HEH : Hid (pgHead p = [76] ++ enc (kn : Int)) := by show _ = _; rw [pgHead, if_pos h0, if_pos h0, ← HNK.out]; simp
      have hpv : pv [76] (kn : Int) = some ([76] ++ enc (kn : Int)) := pv_ok _ _ (by omega) (by omega) (by have := enc_len (kn : Int); simp; omega)
      have HPV := hid hpv
      have HPA : Hid (∀ i, pgPart p i = enc (sAt p.keys i).size ++ bytesOf (sAt p.keys i) ++ (enc (sAt p.vals i).size ++ bytesOf (sAt p.vals i))) := fun i => by rw [pgPart, if_pos h0]
      obtain ⟨hvl, hvs⟩ := HF.out.lf h0
      have hvn : vn = kn := by rw [HNV.out, hvl, HNK.out]
      have HVS := hid hvs
      clear hpv h0 hvl hvs
      have ba := below_new (o := .cells #[.int .u8 76] 5) (w := w1) (Below.refl _ _)
      have L2 := hid (L1.out.below ba)
      have R2 := hid (rd_one w1 76 (by omega) (by omega))
      clear ba L1
      obtain ⟨c0, c1, c2⟩ := L2.out.cells
      go_wp2_with fail
      refine (specPutVar_any _ _ _ _ _ _ R2.out (by omega)).mono ?_
      generalize w1.alloc (.cells #[.int .u8 76] 5) = U2 at *
      intro e w3 hput
      obtain ⟨v3, rfl, hO3, hb3⟩ := hput.got HPV.out
      rw [← HEH.out] at hO3
      obtain ⟨a3, n3, c3, rfl, R3, hn3⟩ := hO3.rdS (pgHead_byte HF.out) (by have := pgHead_len p; omega)
      have L3 := hid (L2.out.below hb3)
      clear hput hO3 hb3 L2 R2 c0 c1 c2 HPV HEH
      obtain ⟨c0, c1, c2⟩ := L3.out.cells
      go_wp2_with fail
      clear c0 c1 c2
      go_loopw [4, 41] (fun xv i wr => ∃ (j : Nat) (a4 : Option Addr) (n4 c4 : Nat), j ≤ kn ∧ i = .int .i64 j ∧ xv = .slice a4 n4 c4 ∧ n4 ≤ 1000 ∧ Hid (Rd wr a4 n4 c4 (pgBody p j)) ∧ Hid (Pw1 w wr w.heap.size ka kn kc va vn vc ia 0 ic p)) (fun _ i _ => kn - (intOf i).toNat)
      case atStart => exact ⟨0, a3, n3, c3, Nat.zero_le _, rfl, rfl, hn3, R3.out, L3.out⟩
      case round =>
        obtain ⟨j, a4, n4, c4, hj, rfl, rfl, hn4, R4, L4⟩ := hrel
        clear R3 L3
        by_cases hlt : j < kn
        · have hlt' : (j : Int) < (kn : Int) := by omega
          have hjl : j < p.keys.length := by rw [← HNK.out]; exact hlt
          have hjv : j < p.vals.length := by rw [← HNV.out]; omega
          obtain ⟨c0, c1, c2⟩ := L4.out.cells
          obtain ⟨kb, ko, hka, -, -, hck⟩ := L4.out.pg.hk.at (by omega)
          obtain ⟨vb, vo, hva, -, -, hcv⟩ := L4.out.pg.hv.at (by omega)
          subst hka hva
          have m0 := hck j hlt
          have hks := HF.out.ks j hjl
          have hvs := HVS.out j hjv
          have HST : Hid (pgBody p (j + 1) = pgBody p j ++ (enc (sAt p.keys j).size ++ bytesOf (sAt p.keys j) ++ (enc (sAt p.vals j).size ++ bytesOf (sAt p.vals j)))) := by show _ = _; rw [pgBody, HPA.out]
          have HLN := hid (pgBody_len HF.out j (by omega))
          have HBY := hid (pgBody_byte HF.out j (by omega))
          have HCV : Hid (∀ u, Pw1 w u w.heap.size (some ⟨kb, ko, none⟩) kn kc (some ⟨vb, vo, none⟩) vn vc ia 0 ic p → u.cell? ⟨vb, vo + j, none⟩ = some (.string (sAt p.vals j))) := by
            intro u hu
            obtain ⟨vb', vo', e, -, -, hc⟩ := hu.pg.hv.at (by omega)
            cases e
            exact hc j (by omega)
          clear hck hcv
          generalize sAt p.keys j = kk at *
          generalize sAt p.vals j = vv at *
          have ek := enc_len kk.size
          have ev := enc_len vv.size
          have HPT1 : Hid (pt (pgBody p j) kk = some (pgBody p j ++ enc kk.size ++ bytesOf kk)) := by
            show _ = _
            rw [pt, if_pos]
            have := HLN.out
            simp only [List.length_append, bytesOf_len]
            omega
          have HPT2 : Hid (pt (pgBody p j ++ enc kk.size ++ bytesOf kk) vv = some (pgBody p (j + 1))) := by
            show _ = _
            rw [pt, if_pos, HST.out]
            · simp
            · have := HLN.out
              simp only [List.length_append, bytesOf_len]
              omega
          have HB1 : Hid (∀ z ∈ pgBody p j ++ enc kk.size ++ bytesOf kk, 0 ≤ z ∧ z ≤ 255) := byte_append (byte_append HBY.out (enc_byte _ (by omega) (by omega))) (bytesOf_byte _)
          have HL1 : Hid ((pgBody p j ++ enc kk.size ++ bytesOf kk).length ≤ 1000) := by
            show _ ≤ _
            have := HLN.out
            simp only [List.length_append, bytesOf_len]
            omega
          have HB2 := hid (pgBody_byte HF.out (j + 1) (by omega))
          have HL2 : Hid ((pgBody p (j + 1)).length ≤ 1000) := by have := pgBody_len HF.out (j + 1) (by omega); show _ ≤ _; omega
          clear ek ev
          go_wp2_with fail
          refine (specPutText_any a4 n4 c4 _ kk _ R4.out (by omega) (by omega)).mono ?_
          intro e w5 hput
          obtain ⟨v5, rfl, hO5, hb5⟩ := hput.got HPT1.out
          obtain ⟨a5, n5, c5, rfl, R5, hn5⟩ := hO5.rdS HB1.out HL1.out
          have L5 := hid (L4.out.below hb5)
          have m5 := HCV.out _ L5.out
          clear hput hO5 hb5 L4 R4 c0 c1 c2 m0
          obtain ⟨c0, c1, c2⟩ := L5.out.cells
          go_wp2_with fail
          refine (specPutText_any a5 n5 c5 _ vv _ R5.out (by omega) (by omega)).mono ?_
          intro e w6 hput
          obtain ⟨v6, rfl, hO6, hb6⟩ := hput.got HPT2.out
          obtain ⟨a6, n6, c6, rfl, R6, hn6⟩ := hO6.rdS HB2.out HL2.out
          have L6 := hid (L5.out.below hb6)
          clear hput hO6 hb6 L5 R5 c0 c1 c2 m5 HPT1 HPT2 HB1 HL1 HB2 HL2 HST HLN HBY HCV
          go_wp2
          go_roundw
          case rel => exact ⟨j + 1, a6, n6, c6, by omega, by go_num, rfl, hn6, R6.out, L6.out⟩
          case measure => simp [intOf]; omega
        · have hlt' : ¬ (j : Int) < (kn : Int) := by omega
          have hjk : j = p.keys.length := by rw [← HNK.out]; omega
          have HFL : Hid (fl (pgBody p j) 512 = some (pgFull p)) := by
            show _ = _
            have hl := pgBody_len HF.out p.keys.length (Nat.le_refl _)
            have hn := HF.out.nk
            rw [hjk, fl, if_pos (by omega)]
            show some (pgRaw p ++ _) = _
            rw [pgFull]
            congr 3
            show ((512 : Int) - ((pgRaw p).length : Int)).toNat = _
            omega
          clear hjk
          go_wp2_with fail
          refine (specFill_any a4 n4 c4 _ 512 _ R4.out (by omega)).mono ?_
          intro e w5 hput
          obtain ⟨v5, rfl, hO5, hb5⟩ := hput.got HFL.out
          have L5 := hid (L4.out.below hb5)
          have HO : Hid (Ob w5 w.heap.size v5 (pgFull p)) := hO5.mono L4.out.be.size
          clear hput hO5 hb5 L4 R4 HFL
          go_wp2
          go_ret2
          exact ⟨L5.out.be, .inr ⟨_, _, HN.out, rfl, HO.out⟩⟩
    · have hi0' : (0 : Int) < (jn : Int) := by omega
      have h0 : ¬ p.kids.length = 0 := by rw [← HNI.out]; exact hi0
      obtain ⟨hil, his⟩ := HF.out.br h0
      have HJN : Hid (jn = kn + 1) := by show _ = _; rw [HNI.out, hil, HNK.out]
      have HIS := hid his
      have h00 := his 0 (by have := HNI.out; omega)
      have HEH : Hid (pgHead p = [66] ++ enc (kn : Int) ++ enc (iAt p.kids 0)) := by show _ = _; rw [pgHead, if_neg h0, if_neg h0, ← HNK.out]
      have HPV : Hid (pv [66] (kn : Int) = some ([66] ++ enc (kn : Int))) := pv_ok _ _ (by omega) (by omega) (by have := enc_len (kn : Int); simp; omega)
      have HPV2 : Hid (pv ([66] ++ enc (kn : Int)) (iAt p.kids 0) = some (pgHead p)) := by
        show _ = _
        rw [HEH.out]
        exact pv_ok _ _ (by omega) (by omega) (by have := enc_len (kn : Int); have := enc_len (iAt p.kids 0); simp; omega)
      have HBY0 : Hid (∀ z ∈ [66] ++ enc (kn : Int), 0 ≤ z ∧ z ≤ 255) := byte_append (by intro z hz; simp at hz; omega) (enc_byte _ (by omega) (by omega))
      have HLN0 : Hid (([66] ++ enc (kn : Int)).length ≤ 1000) := by have := enc_len (kn : Int); show _ ≤ _; simp; omega
      have HPA : Hid (∀ i, pgPart p i = enc (sAt p.keys i).size ++ bytesOf (sAt p.keys i) ++ enc (iAt p.kids (i + 1))) := fun i => by rw [pgPart, if_neg h0]
      clear h0 hil his
      have ba := below_new (o := .cells #[.int .u8 66] 5) (w := w1) (Below.refl _ _)
      have L2 := hid (L1.out.below ba)
      have R2 := hid (rd_one w1 66 (by omega) (by omega))
      have LA := hid (L1.out.below (below_new (o := .cells #[.int .u8 76] 5) (w := w1) (Below.refl _ _)))
      clear ba L1
      obtain ⟨d0, d1, d2⟩ := LA.out.cells
      obtain ⟨c0, c1, c2⟩ := L2.out.cells
      go_wp2_with fail
      refine (specPutVar_any _ _ _ _ _ _ R2.out (by omega)).mono ?_
      generalize w1.alloc (.cells #[.int .u8 66] 5) = U2 at *
      intro e w2 hput
      obtain ⟨v2, rfl, hO2, hb2⟩ := hput.got HPV.out
      obtain ⟨a2, n2, cc2, rfl, R2', hn2⟩ := hO2.rdS HBY0.out HLN0.out
      have L2' := hid (L2.out.below hb2)
      clear hput hO2 hb2 L2 LA R2 c0 c1 c2 d0 d1 d2 HPV HBY0 HLN0
      obtain ⟨c0, c1, c2⟩ := L2'.out.cells
      obtain ⟨ib, io, hia, -, -, hci⟩ := L2'.out.pg.hi.at (by omega)
      subst hia
      have k0 := hci 0 (by omega)
      rw [Nat.add_zero] at k0
      clear hci
      generalize iAt p.kids 0 = kid0 at *
      go_wp2_with fail
      refine (specPutVar_any a2 n2 cc2 _ kid0 _ R2'.out (by omega)).mono ?_
      intro e w3 hput
      obtain ⟨v3, rfl, hO3, hb3⟩ := hput.got HPV2.out
      obtain ⟨a3, n3, c3, rfl, R3, hn3⟩ := hO3.rdS (pgHead_byte HF.out) (by have := pgHead_len p; omega)
      have L3 := hid (L2'.out.below hb3)
      clear hput hO3 hb3 L2' R2' c0 c1 c2 k0 HPV2 HEH h00
      obtain ⟨c0, c1, c2⟩ := L3.out.cells
      go_wp2_with fail
      clear c0 c1 c2
      go_loopw [4, 41] (fun xv i wr => ∃ (j : Nat) (a4 : Option Addr) (n4 c4 : Nat), j ≤ kn ∧ i = .int .i64 j ∧ xv = .slice a4 n4 c4 ∧ n4 ≤ 1000 ∧ Hid (Rd wr a4 n4 c4 (pgBody p j)) ∧ Hid (Pw1 w wr w.heap.size ka kn kc va vn vc (some ⟨ib, io, none⟩) jn ic p)) (fun _ i _ => kn - (intOf i).toNat)
      case atStart => exact ⟨0, a3, n3, c3, Nat.zero_le _, rfl, rfl, hn3, R3.out, L3.out⟩
      case round =>
        obtain ⟨j, a4, n4, c4, hj, rfl, rfl, hn4, R4, L4⟩ := hrel
        clear R3 L3
        by_cases hlt : j < kn
        · have hlt' : (j : Int) < (kn : Int) := by omega
          have hlt2 : (j : Int) + 1 < (jn : Int) := by have := HJN.out; omega
          have hjl : j < p.keys.length := by rw [← HNK.out]; exact hlt
          obtain ⟨c0, c1, c2⟩ := L4.out.cells
          obtain ⟨kb, ko, hka, -, -, hck⟩ := L4.out.pg.hk.at (by omega)
          subst hka
          have m0 := hck j hlt
          have hks := HF.out.ks j hjl
          have hvs := HIS.out (j + 1) (by rw [← HNI.out]; have := HJN.out; omega)
          have HST : Hid (pgBody p (j + 1) = pgBody p j ++ (enc (sAt p.keys j).size ++ bytesOf (sAt p.keys j) ++ enc (iAt p.kids (j + 1)))) := by show _ = _; rw [pgBody, HPA.out]
          have HLN := hid (pgBody_len HF.out j (by omega))
          have HBY := hid (pgBody_byte HF.out j (by omega))
          have HCV : Hid (∀ u, Pw1 w u w.heap.size (some ⟨kb, ko, none⟩) kn kc va vn vc (some ⟨ib, io, none⟩) jn ic p → u.cell? ⟨ib, io + (j + 1), none⟩ = some (.int .i64 (iAt p.kids (j + 1)))) := by
            intro u hu
            obtain ⟨vb', vo', e, -, -, hc⟩ := hu.pg.hi.at (by omega)
            cases e
            exact hc (j + 1) (by have := HJN.out; omega)
          clear hck
          generalize sAt p.keys j = kk at *
          generalize iAt p.kids (j + 1) = vv at *
          have ek := enc_len kk.size
          have ev := enc_len vv
          have HPT1 : Hid (pt (pgBody p j) kk = some (pgBody p j ++ enc kk.size ++ bytesOf kk)) := by
            show _ = _
            rw [pt, if_pos]
            have := HLN.out
            simp only [List.length_append, bytesOf_len]
            omega
          have HPT2 : Hid (pv (pgBody p j ++ enc kk.size ++ bytesOf kk) vv = some (pgBody p (j + 1))) := by
            show _ = _
            rw [HST.out, pv_ok _ _ (by omega) (by omega)]
            · simp
            · have := HLN.out
              simp only [List.length_append, bytesOf_len]
              omega
          have HB1 : Hid (∀ z ∈ pgBody p j ++ enc kk.size ++ bytesOf kk, 0 ≤ z ∧ z ≤ 255) := byte_append (byte_append HBY.out (enc_byte _ (by omega) (by omega))) (bytesOf_byte _)
          have HL1 : Hid ((pgBody p j ++ enc kk.size ++ bytesOf kk).length ≤ 1000) := by
            show _ ≤ _
            have := HLN.out
            simp only [List.length_append, bytesOf_len]
            omega
          have HB2 := hid (pgBody_byte HF.out (j + 1) (by omega))
          have HL2 : Hid ((pgBody p (j + 1)).length ≤ 1000) := by have := pgBody_len HF.out (j + 1) (by omega); show _ ≤ _; omega
          clear ek ev
          go_wp2_with fail
          refine (specPutText_any a4 n4 c4 _ kk _ R4.out (by omega) (by omega)).mono ?_
          intro e w5 hput
          obtain ⟨v5, rfl, hO5, hb5⟩ := hput.got HPT1.out
          obtain ⟨a5, n5, c5, rfl, R5, hn5⟩ := hO5.rdS HB1.out HL1.out
          have L5 := hid (L4.out.below hb5)
          have m5 := HCV.out _ L5.out
          clear hput hO5 hb5 L4 R4 c0 c1 c2 m0
          obtain ⟨c0, c1, c2⟩ := L5.out.cells
          go_wp2_with fail
          refine (specPutVar_any a5 n5 c5 _ vv _ R5.out (by omega)).mono ?_
          intro e w6 hput
          obtain ⟨v6, rfl, hO6, hb6⟩ := hput.got HPT2.out
          obtain ⟨a6, n6, c6, rfl, R6, hn6⟩ := hO6.rdS HB2.out HL2.out
          have L6 := hid (L5.out.below hb6)
          clear hput hO6 hb6 L5 R5 c0 c1 c2 m5 HPT1 HPT2 HB1 HL1 HB2 HL2 HST HLN HBY HCV
          go_wp2
          go_roundw
          case rel => exact ⟨j + 1, a6, n6, c6, by omega, by go_num, rfl, hn6, R6.out, L6.out⟩
          case measure => simp [intOf]; omega
        · have hlt' : ¬ (j : Int) < (kn : Int) := by omega
          have hjk : j = p.keys.length := by rw [← HNK.out]; omega
          have HFL : Hid (fl (pgBody p j) 512 = some (pgFull p)) := by
            show _ = _
            have hl := pgBody_len HF.out p.keys.length (Nat.le_refl _)
            have hn := HF.out.nk
            rw [hjk, fl, if_pos (by omega)]
            show some (pgRaw p ++ _) = _
            rw [pgFull]
            congr 3
            show ((512 : Int) - ((pgRaw p).length : Int)).toNat = _
            omega
          clear hjk
          go_wp2_with fail
          refine (specFill_any a4 n4 c4 _ 512 _ R4.out (by omega)).mono ?_
          intro e w5 hput
          obtain ⟨v5, rfl, hO5, hb5⟩ := hput.got HFL.out
          have L5 := hid (L4.out.below hb5)
          have HO : Hid (Ob w5 w.heap.size v5 (pgFull p)) := hO5.mono L4.out.be.size
          clear hput hO5 hb5 L4 R4 HFL
          go_wp2
          go_ret2
          exact ⟨L5.out.be, .inr ⟨_, _, HN.out, rfl, HO.out⟩⟩
end Go.Proofs.YtpgogpphobafoaaDoor
/-
  What the program's GetVar answers, for every slice of bytes and every place; it changes nothing.
-/
namespace Go.Proofs.YtpgogpphobafoaaDoor
open Go.RowKit

theorem mul_bounds (x u : Int) (h0 : 0 ≤ x) (h1 : x ≤ 127) (hu : 0 ≤ u) : 0 ≤ x * u ∧ x * u ≤ 127 * u :=
  ⟨Int.mul_nonneg h0 hu, Int.mul_le_mul_of_nonneg_right h1 hu⟩

theorem gv_neg (zs : List Int) (p : Int) (h : p < 0) : gv zs p = (0, -1) := by unfold gv; rw [if_pos h]
theorem gv_nat (zs : List Int) (k : Nat) : gv zs (k : Int) = gvGo 6 zs k 0 1 := by unfold gv; rw [if_neg (by omega), Int.toNat_natCast]

set_option maxHeartbeats 800000 in
theorem implGetVar_any (a : Option Addr) (n c : Nat) (zs : List Int) (p : Int) (w : World) (h : Rd w a n c zs) (hp : p ≤ 9223372036854775807) :
    Calls Tryd.prog 87 #[.slice a n c, .int .i64 p] w fun e w' => e = .returned (.tuple #[.int .i64 (gv zs p).1, .int .i64 (gv zs p).2]) ∧ w = w' := by
  obtain ⟨hn0, hc, hm, hnm, hb, hcell⟩ := h
  have HN : Hid (n = zs.length) := hn0
  clear hn0
  by_cases hneg : p < 0
  · have HG : Hid (gv zs p = (0, -1)) := gv_neg zs p hneg
    go_enter Tryd.func87, Tryd.ntmps87
    go_wp2
    go_ret2
    exact ⟨by rw [HG.out]; rfl, rfl⟩
  · obtain ⟨k0, rfl⟩ := Int.eq_ofNat_of_zero_le (by omega : 0 ≤ p)
    go_enter Tryd.func87, Tryd.ntmps87
    go_wp2
    go_loop [1, 6, 7] (fun i s t => ∃ (f k : Nat) (r u : Int), i = .int .i64 k ∧ s = .int .i64 r ∧ t = .int .i64 u ∧ f ≤ 6 ∧ k ≤ 9223372036854775807 ∧ u = uOf f ∧ 0 ≤ r ∧ r < u ∧ gvGo f zs k r u = gv zs k0) (fun i _ _ => n - (intOf i).toNat)
    case atStart => exact ⟨6, k0, 0, 1, rfl, rfl, rfl, by omega, by omega, rfl, by omega, by omega, by rw [gv_nat]⟩
    case round =>
      obtain ⟨f, k, r, u, rfl, rfl, rfl, hf6, hkm, hu, hr0, hru, hgv⟩ := hrel
      have HU : Hid (u = uOf f) := hu
      have HG : Hid (gvGo f zs k r u = gv zs k0) := hgv
      clear hu hgv
      by_cases hlt : k < n
      · obtain ⟨b, off, ha, hbw, hcell⟩ := hcell (by omega)
        have hck := hcell k hlt
        have hbk := (hb k).1
        have hbk2 := (hb k).2
        have HK : Hid (k < zs.length) := by show k < zs.length; rw [← HN.out]; exact hlt
        have hlt' : (k : Int) < (n : Int) := by omega
        clear hcell hb
        rw [ha]
        cases f with
        | zero =>
          have hu' : 1099511627775 < u := by rw [HU.out]; decide
          have HR : Hid (gv zs k0 = (0, -1)) := by show gv zs k0 = (0, -1); rw [← HG.out]; rfl
          go_wp2
          go_ret2
          exact ⟨by rw [HR.out]; rfl, rfl⟩
        | succ f =>
          have hu1 : 1 ≤ u := by rw [HU.out]; exact (uOf_le (f + 1) (by omega)).1
          have hu2 : u ≤ 34359738368 := by rw [HU.out]; exact (uOf_le (f + 1) (by omega)).2
          have HU2 : Hid (u * 128 = uOf f) := by show u * 128 = uOf f; rw [HU.out]; exact uOf_next f (by omega)
          by_cases hd : 128 ≤ zs[k]?.getD 0
          · have HG2 : Hid (gvGo f zs (k + 1) (r + (zs[k]?.getD 0 - 128) * u) (u * 128) = gv zs k0) := by
              show gvGo f zs (k + 1) (r + (zs[k]?.getD 0 - 128) * u) (u * 128) = gv zs k0
              rw [← HG.out, gvGo_more f zs k r u HK.out hd]
            generalize zs[k]?.getD 0 = d at *
            obtain ⟨m0, m1⟩ := mul_bounds (d - 128) u (by omega) (by omega) (by omega)
            go_wp2
            go_round
            case rel => exact ⟨f, k + 1, r + (d - 128) * u, u * 128, by go_num, rfl, rfl, by omega, by omega, HU2.out, by omega, by omega, HG2.out⟩
            case measure => simp [intOf]; omega
          · by_cases hbad : 1099511627775 < r + zs[k]?.getD 0 * u
            · have HR : Hid (gv zs k0 = (0, -1)) := by
                show gv zs k0 = (0, -1)
                rw [← HG.out]; exact gvGo_bad f zs k r u HK.out (by omega) (.inl hbad)
              generalize zs[k]?.getD 0 = d at *
              obtain ⟨m0, m1⟩ := mul_bounds d u (by omega) (by omega) (by omega)
              go_wp2
              go_ret2
              exact ⟨by rw [HR.out]; rfl, rfl⟩
            · by_cases hz : zs[k]?.getD 0 = 0
              · by_cases hu3 : 1 < u
                · have HR : Hid (gv zs k0 = (0, -1)) := by
                    show gv zs k0 = (0, -1)
                    rw [← HG.out]; exact gvGo_bad f zs k r u HK.out (by omega) (.inr ⟨hz, hu3⟩)
                  rw [hz] at hck hbad
                  clear hz hbk hbk2 hd
                  go_wp2
                  go_ret2
                  exact ⟨by rw [HR.out]; rfl, rfl⟩
                · have HR : Hid (gv zs k0 = (r + 0 * u, (k : Int) + 1)) := by
                    show gv zs k0 = (r + 0 * u, (k : Int) + 1)
                    rw [← HG.out, gvGo_good f zs k r u HK.out (by omega) (by omega), hz]
                  rw [hz] at hck hbad
                  clear hz hbk hbk2 hd
                  go_wp2
                  go_ret2
                  exact ⟨by rw [HR.out]; simp, rfl⟩
              · have HR : Hid (gv zs k0 = (r + zs[k]?.getD 0 * u, (k : Int) + 1)) := by
                  show gv zs k0 = (r + zs[k]?.getD 0 * u, (k : Int) + 1)
                  rw [← HG.out, gvGo_good f zs k r u HK.out (by omega) (by omega)]
                generalize zs[k]?.getD 0 = d at *
                have hz' : (d == 0) = false := by simp [hz]
                obtain ⟨m0, m1⟩ := mul_bounds d u (by omega) (by omega) (by omega)
                clear hz
                go_wp2
                go_ret2
                exact ⟨by rw [HR.out]; rfl, rfl⟩
      · have HR : Hid (gv zs k0 = (0, -1)) := by
          show gv zs k0 = (0, -1)
          rw [← HG.out]; exact gvGo_end f zs k r u (by rw [← HN.out]; omega)
        have hlt' : ¬ (k : Int) < (n : Int) := by omega
        go_wp2
        go_ret2
        exact ⟨by rw [HR.out]; rfl, rfl⟩
end Go.Proofs.YtpgogpphobafoaaDoor
/-
  'string(b)' of a slice of bytes that is read.
-/
namespace Go.Proofs.YtpgogpphobafoaaDoor
open Go.RowKit

/-- The string of these bytes. -/
def strOf (zs : List Int) : ByteArray := ⟨(zs.map fun z => UInt8.ofNat z.toNat).toArray⟩
theorem foldl_push (zs : List Int) : ∀ s : ByteArray, zs.foldl (fun r n => r.push (UInt8.ofNat n.toNat)) s = ⟨(s.data.toList ++ zs.map fun z => UInt8.ofNat z.toNat).toArray⟩ := by
  induction zs with
  | nil => intro s; simp
  | cons z zs ih =>
    intro s
    rw [List.foldl_cons, ih]
    simp [ByteArray.push]
theorem strOf_foldl (zs : List Int) : zs.foldl (fun r n => r.push (UInt8.ofNat n.toNat)) ByteArray.empty = strOf zs := by
  rw [foldl_push]
  simp only [strOf]
  rfl

/-- 'string(b)'. -/
theorem run_str {w : World} {a : Option Addr} {n c : Nat} {zs : List Int} (h : Rd w a n c zs) : (convert 27 9 (.slice a n c)).run Tryd.prog w = .ok (.string (strOf zs)) w := by
  rw [run_convert_bytes_string w _ _ _ a n c Tryd.underlying27 Tryd.underlying5 Tryd.underlying9]
  obtain ⟨h1, h2, h3, h30, h4, h5⟩ := h
  cases a with
  | none =>
    have hm : n = 0 := by
      rcases Nat.eq_zero_or_pos n with h | h
      · exact h
      · obtain ⟨b, off, e, _⟩ := h5 h
        cases e
    have hz : zs = [] := List.eq_nil_of_length_eq_zero (by omega)
    subst hz
    rfl
  | some x =>
    rw [run_bytesToString w x n c zs, strOf_foldl]
    have hl := run_firstCells_some (P := Tryd.prog) w 1 n x n c (zs.map (Value.int .u8)) (by simp [h1]) (by
        intro j u hu
        have hj : j < zs.length := by
          have := (List.getElem?_eq_some_iff.1 hu).1
          simpa using this
        obtain ⟨b, off, e, _, hc⟩ := h5 (by omega)
        cases e
        have := hc j (by omega)
        rw [Addr.add_lit, this]
        simp [hj] at hu
        simp [hj, hu])
    simpa [Builtin.firstCells] using hl
end Go.Proofs.YtpgogpphobafoaaDoor
/-
  What the model's GetVar answers, for every slice of bytes and every place: the same as the program's.
-/
namespace Go.Proofs.YtpgogpphobafoaaDoor
open Go.RowKit

theorem rd_nil (w : World) : Rd w none 0 0 [] := ⟨rfl, Nat.le_refl _, by omega, by omega, by simp, fun h => by omega⟩

theorem enc_digits (f : Nat) (hf : f ≤ 5) (r d : Int) (h0 : 0 ≤ r) (h1 : r < uOf (f + 1)) (hd0 : 0 ≤ d) (hd1 : d < 128) : (enc (r + d * uOf (f + 1))).length = 6 - f ↔ (f = 5 ∨ d ≠ 0) := by
  match f, hf with
  | 0, _ => have := encF_length_eq 5 6 (r + d * uOf 1); simp [bnd, uOf, enc] at *; omega
  | 1, _ => have := encF_length_eq 4 6 (r + d * uOf 2); simp [bnd, uOf, enc] at *; omega
  | 2, _ => have := encF_length_eq 3 6 (r + d * uOf 3); simp [bnd, uOf, enc] at *; omega
  | 3, _ => have := encF_length_eq 2 6 (r + d * uOf 4); simp [bnd, uOf, enc] at *; omega
  | 4, _ => have := encF_length_eq 1 6 (r + d * uOf 5); simp [bnd, uOf, enc] at *; omega
  | 5, _ => have := encF_length_eq 0 6 (r + d * uOf 6); simp [bnd, uOf, enc] at *; omega

set_option maxHeartbeats 800000 in
theorem specGetVar_any (a : Option Addr) (n c : Nat) (zs : List Int) (p : Int) (w : World) (h : Rd w a n c zs) (hp : p ≤ 9223372036854775807) :
    Calls Tryd.prog 44 #[.slice a n c, .int .i64 p] w fun e w' => e = .returned (.tuple #[.int .i64 (gv zs p).1, .int .i64 (gv zs p).2]) ∧ Below w.heap.size w w' := by
  obtain ⟨hn0, hc, hm, hnm, hb, hcell⟩ := h
  have HN : Hid (n = zs.length) := hn0
  clear hn0
  by_cases hneg : p < 0
  · have HG : Hid (gv zs p = (0, -1)) := gv_neg zs p hneg
    go_enter Tryd.func44, Tryd.ntmps44
    go_wp2
    go_ret2
    exact ⟨by rw [HG.out]; rfl, Below.refl _ _⟩
  · obtain ⟨k0, rfl⟩ := Int.eq_ofNat_of_zero_le (by omega : 0 ≤ p)
    by_cases hout : (n : Int) ≤ (k0 : Int)
    · have HG : Hid (gv zs k0 = (0, -1)) := by
        show gv zs k0 = (0, -1)
        rw [gv_nat]; exact gvGo_end 6 zs k0 0 1 (by rw [← HN.out]; omega)
      go_enter Tryd.func44, Tryd.ntmps44
      go_wp2
      go_ret2
      exact ⟨by rw [HG.out]; rfl, Below.refl _ _⟩
    · go_enter Tryd.func44, Tryd.ntmps44
      go_wp2
      go_loop [6, 7, 8] (fun s t i => ∃ (f k : Nat) (r u : Int), i = .int .i64 k ∧ s = .int .i64 r ∧ t = .int .i64 u ∧ f ≤ 6 ∧ k + f = k0 + 6 ∧ k ≤ n ∧ u = uOf f ∧ 0 ≤ r ∧ r < u ∧ gvGo f zs k r u = gv zs k0) (fun _ _ i => n - (intOf i).toNat)
      case atStart => exact ⟨6, k0, 0, 1, rfl, rfl, rfl, by omega, by omega, by omega, rfl, by omega, by omega, by rw [gv_nat]⟩
      case round =>
        obtain ⟨f, k, r, u, rfl, rfl, rfl, hf6, hkf, hkn, hu, hr0, hru, hgv⟩ := hrel
        have HU : Hid (u = uOf f) := hu
        have HG : Hid (gvGo f zs k r u = gv zs k0) := hgv
        have HF : Hid (k + f = k0 + 6) := hkf
        have hkb : k ≤ k0 + 6 := by omega
        clear hu hgv hkf
        by_cases hlt : k < n
        · obtain ⟨b, off, ha, hbw, hcell⟩ := hcell (by omega)
          have hck := hcell k hlt
          have hbk := (hb k).1
          have hbk2 := (hb k).2
          have HK : Hid (k < zs.length) := by show k < zs.length; rw [← HN.out]; exact hlt
          have hlt' : (k : Int) < (n : Int) := by omega
          clear hcell hb
          rw [ha]
          cases f with
          | zero =>
            have hu' : ¬ (k : Int) < (k0 : Int) + 6 := by have := HF.out; omega
            have HR : Hid (gv zs k0 = (0, -1)) := by show gv zs k0 = (0, -1); rw [← HG.out]; rfl
            go_wp2
            go_ret2
            exact ⟨by rw [HR.out]; rfl, Below.refl _ _⟩
          | succ f =>
            have hk6 : (k : Int) < (k0 : Int) + 6 := by have := HF.out; omega
            have hu1 : 1 ≤ u := by rw [HU.out]; exact (uOf_le (f + 1) (by omega)).1
            have hu2 : u ≤ 34359738368 := by rw [HU.out]; exact (uOf_le (f + 1) (by omega)).2
            have HU2 : Hid (u * 128 = uOf f) := by show u * 128 = uOf f; rw [HU.out]; exact uOf_next f (by omega)
            by_cases hd : 128 ≤ zs[k]?.getD 0
            · have HG2 : Hid (gvGo f zs (k + 1) (r + (zs[k]?.getD 0 % 128) * u) (u * 128) = gv zs k0) := by
                show gvGo f zs (k + 1) (r + (zs[k]?.getD 0 % 128) * u) (u * 128) = gv zs k0
                rw [show zs[k]?.getD 0 % 128 = zs[k]?.getD 0 - 128 from by omega, ← HG.out, gvGo_more f zs k r u HK.out hd]
              generalize zs[k]?.getD 0 = d at *
              obtain ⟨m0, m1⟩ := mul_bounds (d % 128) u (by omega) (by omega) (by omega)
              go_wp2
              go_round
              case rel => exact ⟨f, k + 1, r + d % 128 * u, u * 128, by go_num, rfl, rfl, by omega, by have := HF.out; omega, by omega, HU2.out, by omega, by omega, HG2.out⟩
              case measure => simp [intOf]; omega
            · have HM : Hid (zs[k]?.getD 0 % 128 = zs[k]?.getD 0) := by show zs[k]?.getD 0 % 128 = zs[k]?.getD 0; omega
              have HL : Hid ((enc (r + zs[k]?.getD 0 % 128 * u)).length = 6 - f ↔ (f = 5 ∨ zs[k]?.getD 0 ≠ 0)) := by
                show (enc (r + zs[k]?.getD 0 % 128 * u)).length = 6 - f ↔ (f = 5 ∨ zs[k]?.getD 0 ≠ 0)
                rw [HM.out, HU.out]
                exact enc_digits f (by omega) r _ hr0 (by rw [← HU.out]; exact hru) hbk (by omega)
              have HU1 : Hid (1 < u ↔ f + 1 < 6) := by show 1 < u ↔ f + 1 < 6; rw [HU.out]; exact uOf_one (f + 1) (by omega) (by omega)
              by_cases hbad : 1099511627775 < r + zs[k]?.getD 0 % 128 * u
              · have HR : Hid (gv zs k0 = (0, -1)) := by
                  show gv zs k0 = (0, -1)
                  rw [← HG.out]; exact gvGo_bad f zs k r u HK.out (by omega) (.inl (by rw [HM.out] at hbad; exact hbad))
                have HP : Hid (pv [] (r + zs[k]?.getD 0 % 128 * u) = none) := pv_bad _ _ (.inr hbad)
                generalize zs[k]?.getD 0 = d at *
                obtain ⟨m0, m1⟩ := mul_bounds (d % 128) u (by omega) (by omega) (by omega)
                go_wp2_with (go_at_call 29; refine (specPutVar_none none 0 0 [] (r + d % 128 * u) _ (rd_nil _) (by omega) HP.out).mono ?_; rintro e w1 ⟨rfl, hb1⟩)
                go_ret2
                exact ⟨by rw [HR.out]; rfl, hb1⟩
              · have HP : Hid (pv [] (r + zs[k]?.getD 0 % 128 * u) = some (enc (r + zs[k]?.getD 0 % 128 * u))) := by
                  refine pv_ok [] _ ?_ (by omega) ?_
                  · have := (mul_bounds (zs[k]?.getD 0 % 128) u (by omega) (by omega) (by omega)).1
                    omega
                  · have := (enc_len (r + zs[k]?.getD 0 % 128 * u)).2
                    simp; omega
                by_cases hg : f = 5 ∨ zs[k]?.getD 0 ≠ 0
                · have HR : Hid (gv zs k0 = (r + zs[k]?.getD 0 % 128 * u, (k : Int) + 1)) := by
                    show gv zs k0 = (r + zs[k]?.getD 0 % 128 * u, (k : Int) + 1)
                    have := HU1.out
                    rw [← HG.out, HM.out, gvGo_good f zs k r u HK.out (by omega) (by rw [HM.out] at hbad; omega)]
                  have hl := HL.out.2 hg
                  generalize zs[k]?.getD 0 = d at *
                  obtain ⟨m0, m1⟩ := mul_bounds (d % 128) u (by omega) (by omega) (by omega)
                  have hne : (((enc (r + d % 128 * u)).length : Int) != (k : Int) + 1 - (k0 : Int)) = false := by
                    have := HF.out
                    simp; omega
                  clear hl hg
                  go_wp2_with (go_at_call 29; refine (specPutVar_some none 0 0 [] _ (r + d % 128 * u) _ (rd_nil _) (by omega) HP.out).mono ?_; rintro e w1 ⟨v, rfl, ho, hb1⟩; obtain ⟨a2, c2, hv2⟩ := ho.shape; rw [hv2])
                  go_ret2
                  exact ⟨by rw [HR.out]; rfl, hb1⟩
                · have HR : Hid (gv zs k0 = (0, -1)) := by
                    show gv zs k0 = (0, -1)
                    have := HU1.out
                    rw [← HG.out]; exact gvGo_bad f zs k r u HK.out (by omega) (.inr (by omega))
                  have hl : ¬ _ := fun x => hg (HL.out.1 x)
                  generalize zs[k]?.getD 0 = d at *
                  obtain ⟨m0, m1⟩ := mul_bounds (d % 128) u (by omega) (by omega) (by omega)
                  have hne : (((enc (r + d % 128 * u)).length : Int) != (k : Int) + 1 - (k0 : Int)) = true := by
                    have := HF.out
                    simp; omega
                  clear hl hg
                  go_wp2_with (go_at_call 29; refine (specPutVar_some none 0 0 [] _ (r + d % 128 * u) _ (rd_nil _) (by omega) HP.out).mono ?_; rintro e w1 ⟨v, rfl, ho, hb1⟩; obtain ⟨a2, c2, hv2⟩ := ho.shape; rw [hv2])
                  go_ret2
                  exact ⟨by rw [HR.out]; rfl, hb1⟩
        · have HR : Hid (gv zs k0 = (0, -1)) := by
            show gv zs k0 = (0, -1)
            rw [← HG.out]; exact gvGo_end f zs k r u (by rw [← HN.out]; omega)
          have hlt' : ¬ (k : Int) < (n : Int) := by omega
          go_wp2
          go_ret2
          exact ⟨by rw [HR.out]; rfl, Below.refl _ _⟩
end Go.Proofs.YtpgogpphobafoaaDoor
/-
  What both GetTexts answer, for every slice of bytes and every place.
-/
namespace Go.Proofs.YtpgogpphobafoaaDoor
open Go.RowKit

theorem gvGo_range (f : Nat) (zs : List Int) (hb : ∀ i : Nat, 0 ≤ zs[i]?.getD 0 ∧ zs[i]?.getD 0 ≤ 255) : ∀ (k : Nat) (n u : Int), 0 ≤ n → 0 ≤ u →
    gvGo f zs k n u = (0, -1) ∨ ∃ j : Nat, (gvGo f zs k n u).2 = j ∧ 1 ≤ j ∧ j ≤ zs.length ∧ 0 ≤ (gvGo f zs k n u).1 ∧ (gvGo f zs k n u).1 ≤ 1099511627775 := by
  induction f with
  | zero => intro k n u _ _; exact .inl rfl
  | succ f ih =>
    intro k n u hn hu
    by_cases hk : k < zs.length
    · by_cases hd : 128 ≤ zs[k]?.getD 0
      · rw [gvGo_more f zs k n u hk hd]
        have := Int.mul_nonneg (show 0 ≤ zs[k]?.getD 0 - 128 by omega) hu
        exact ih (k + 1) _ _ (by omega) (by omega)
      · by_cases hbad : 1099511627775 < n + zs[k]?.getD 0 * u ∨ (zs[k]?.getD 0 = 0 ∧ 1 < u)
        · exact .inl (gvGo_bad f zs k n u hk (by omega) hbad)
        · rw [gvGo_good f zs k n u hk (by omega) hbad]
          have := Int.mul_nonneg (hb k).1 hu
          exact .inr ⟨k + 1, by simp, by omega, by omega, by show 0 ≤ n + zs[k]?.getD 0 * u; omega, by show n + zs[k]?.getD 0 * u ≤ 1099511627775; omega⟩
    · exact .inl (gvGo_end (f + 1) zs k n u (by omega))
theorem gv_range (zs : List Int) (hb : ∀ i : Nat, 0 ≤ zs[i]?.getD 0 ∧ zs[i]?.getD 0 ≤ 255) (p : Int) :
    gv zs p = (0, -1) ∨ ∃ j : Nat, (gv zs p).2 = j ∧ 1 ≤ j ∧ j ≤ zs.length ∧ 0 ≤ (gv zs p).1 ∧ (gv zs p).1 ≤ 1099511627775 := by
  unfold gv
  split
  · exact .inl rfl
  · exact gvGo_range 6 zs hb _ 0 1 (by omega) (by omega)

theorem rd_empty (w : World) (a : Option Addr) : Rd w a 0 0 [] := ⟨rfl, Nat.le_refl _, by omega, by omega, by simp, fun h => by omega⟩
/-- What GetText answers. -/
def gt (zs : List Int) (p : Int) : List Int × Int := if (gv zs p).2 < 0 ∨ (zs.length : Int) - (gv zs p).2 < (gv zs p).1 then ([], -1) else ((zs.drop (gv zs p).2.toNat).take (gv zs p).1.toNat, (gv zs p).2 + (gv zs p).1)

/-- A slice of a slice, read. -/
theorem Rd.slice {w : World} {b off n c : Nat} {zs : List Int} (h : Rd w (some ⟨b, off, none⟩) n c zs) (lo m : Nat) (hm : lo + m ≤ n) (k : Nat) (hk : m ≤ k) (hk2 : k ≤ c) : Rd w (some ⟨b, off + lo, none⟩) m k ((zs.drop lo).take m) := by
  obtain ⟨h1, h2, h3, h30, h4, h5⟩ := h
  refine ⟨by simp; omega, hk, by omega, by omega, fun i => ?_, fun hp => ⟨b, off + lo, rfl, ?_, fun i hi => ?_⟩⟩
  · by_cases hi : i < m
    · rw [List.getElem?_take_of_lt hi, List.getElem?_drop]; exact h4 (lo + i)
    · rw [List.getElem?_eq_none (by simp; omega)]; simp
  · obtain ⟨b', off', e, hb, _⟩ := h5 (by omega)
    cases e; exact hb
  · obtain ⟨b', off', e, hb, hc⟩ := h5 (by omega)
    cases e
    rw [List.getElem?_take_of_lt hi, List.getElem?_drop, ← hc (lo + i) (by omega), Nat.add_assoc]

set_option maxHeartbeats 800000 in
set_option maxRecDepth 20000 in
theorem implGetText_any (a : Option Addr) (n c : Nat) (zs : List Int) (p : Int) (w : World) (h : Rd w a n c zs) (hp : p ≤ 9223372036854775807) :
    Calls Tryd.prog 86 #[.slice a n c, .int .i64 p] w fun e w' => e = .returned (.tuple #[.string (strOf (gt zs p).1), .int .i64 (gt zs p).2]) ∧ w = w' := by
  have HN : Hid (n = zs.length) := h.1
  have hnm : n ≤ 140737488355328 := h.2.2.2.1
  have hcm : c ≤ 9223372036854775807 := h.2.2.1
  have hnc : n ≤ c := h.2.1
  have HC := implGetVar_any a n c zs p w h hp
  have hrg := gv_range zs h.2.2.2.2.1 p
  have HT : Hid (gt zs p = if (gv zs p).2 < 0 ∨ (zs.length : Int) - (gv zs p).2 < (gv zs p).1 then ([], -1) else ((zs.drop (gv zs p).2.toNat).take (gv zs p).1.toNat, (gv zs p).2 + (gv zs p).1)) := rfl
  generalize gv zs p = g at *
  obtain ⟨s, f⟩ := g
  have HC' := hid HC
  clear HC
  rcases hrg with hg | ⟨j, hj, hj1, hj2, hs0, hs1⟩
  · cases hg
    have HR : Hid (gt zs p = ([], -1)) := by show gt zs p = ([], -1); rw [HT.out]; simp
    clear HT
    have HD := hid h
    clear h
    go_enter Tryd.func86, Tryd.ntmps86
    go_wp2_with (go_at_call 87; refine HC'.out.mono ?_; rintro e w' ⟨rfl, rfl⟩)
    go_ret2
    exact ⟨by rw [HR.out]; rfl, rfl⟩
  · simp only at hj hs0 hs1
    subst hj
    have hjn : j ≤ n := by rw [HN.out]; exact hj2
    clear hj2
    obtain ⟨b, off, ha, hbw, _⟩ := h.2.2.2.2.2 (by omega)
    subst ha
    by_cases hlong : (n : Int) - (j : Int) < s
    · have HR : Hid (gt zs p = ([], -1)) := by
        show gt zs p = ([], -1)
        rw [HT.out]
        exact if_pos (.inr (by rw [← HN.out]; exact hlong))
      clear HT
      have HD := hid h
      clear h
      go_enter Tryd.func86, Tryd.ntmps86
      go_wp2_with (go_at_call 87; refine HC'.out.mono ?_; rintro e w' ⟨rfl, rfl⟩)
      go_ret2
      exact ⟨by rw [HR.out]; rfl, rfl⟩
    · obtain ⟨m, rfl⟩ := Int.eq_ofNat_of_zero_le hs0
      have HR : Hid (gt zs p = ((zs.drop j).take m, (j : Int) + (m : Int))) := by
        show gt zs p = ((zs.drop j).take m, (j : Int) + (m : Int))
        rw [HT.out]
        rw [if_neg (by rw [← HN.out]; simp; omega)]
        simp
      clear HT
      by_cases hcj : c = j
      · have hm0 : m = 0 := by omega
        subst hm0
        subst hcj
        have hst := run_str (rd_empty w (some ⟨b, off, none⟩))
        have HD := hid h
        clear h
        go_enter Tryd.func86, Tryd.ntmps86
        go_wp2_with (go_at_call 87; refine (HC'.out).mono ?_; rintro e w' ⟨rfl, rfl⟩)
        go_ret2
        exact ⟨by rw [HR.out]; simp, rfl⟩
      · have hst := run_str (h.slice j m (by omega) (c - j) (by omega) (by omega))
        have hj0 : ¬ j = 0 := by omega
        have HD := hid h
        clear h
        go_enter Tryd.func86, Tryd.ntmps86
        go_wp2_with (go_at_call 87; refine HC'.out.mono ?_; rintro e w' ⟨rfl, rfl⟩)
        go_ret2
        exact ⟨by rw [HR.out]; rfl, rfl⟩
set_option maxHeartbeats 800000 in
set_option maxRecDepth 20000 in
theorem specGetText_any (a : Option Addr) (n c : Nat) (zs : List Int) (p : Int) (w : World) (h : Rd w a n c zs) (hp : p ≤ 9223372036854775807) :
    Calls Tryd.prog 45 #[.slice a n c, .int .i64 p] w fun e w' => e = .returned (.tuple #[.string (strOf (gt zs p).1), .int .i64 (gt zs p).2]) ∧ Below w.heap.size w w' := by
  have HN : Hid (n = zs.length) := h.1
  have hnm : n ≤ 140737488355328 := h.2.2.2.1
  have hcm : c ≤ 9223372036854775807 := h.2.2.1
  have hnc : n ≤ c := h.2.1
  have HC := specGetVar_any a n c zs p w h hp
  have hrg := gv_range zs h.2.2.2.2.1 p
  have HT : Hid (gt zs p = if (gv zs p).2 < 0 ∨ (zs.length : Int) - (gv zs p).2 < (gv zs p).1 then ([], -1) else ((zs.drop (gv zs p).2.toNat).take (gv zs p).1.toNat, (gv zs p).2 + (gv zs p).1)) := rfl
  generalize gv zs p = g at *
  obtain ⟨s, f⟩ := g
  have HC' := hid HC
  clear HC
  rcases hrg with hg | ⟨j, hj, hj1, hj2, hs0, hs1⟩
  · cases hg
    have HR : Hid (gt zs p = ([], -1)) := by show gt zs p = ([], -1); rw [HT.out]; simp
    clear HT
    have HD := hid h
    clear h
    go_enter Tryd.func45, Tryd.ntmps45
    go_wp2_with (go_at_call 44; refine HC'.out.mono ?_; rintro e w1 ⟨rfl, hb1⟩)
    go_ret2
    exact ⟨by rw [HR.out]; rfl, hb1⟩
  · simp only at hj hs0 hs1
    subst hj
    have hjn : j ≤ n := by rw [HN.out]; exact hj2
    clear hj2
    obtain ⟨b, off, ha, hbw, _⟩ := h.2.2.2.2.2 (by omega)
    subst ha
    by_cases hlong : (n : Int) - (j : Int) < s
    · have HR : Hid (gt zs p = ([], -1)) := by
        show gt zs p = ([], -1)
        rw [HT.out]
        exact if_pos (.inr (by rw [← HN.out]; exact hlong))
      clear HT
      have HD := hid h
      clear h
      go_enter Tryd.func45, Tryd.ntmps45
      go_wp2_with (go_at_call 44; refine HC'.out.mono ?_; rintro e w1 ⟨rfl, hb1⟩)
      go_ret2
      exact ⟨by rw [HR.out]; rfl, hb1⟩
    · obtain ⟨m, rfl⟩ := Int.eq_ofNat_of_zero_le hs0
      have HR : Hid (gt zs p = ((zs.drop j).take m, (j : Int) + (m : Int))) := by
        show gt zs p = ((zs.drop j).take m, (j : Int) + (m : Int))
        rw [HT.out]
        rw [if_neg (by rw [← HN.out]; simp; omega)]
        simp
      clear HT
      by_cases hcj : c = j
      · have hm0 : m = 0 := by omega
        subst hm0
        subst hcj
        have HD := hid h
        clear h
        go_enter Tryd.func45, Tryd.ntmps45
        go_wp2_with (go_at_call 44; refine (HC'.out).mono ?_; rintro e w1 ⟨rfl, hb1⟩; have hst := run_str (rd_empty w1 (some ⟨b, off, none⟩)))
        go_ret2
        exact ⟨by rw [HR.out]; simp, hb1⟩
      · have hj0 : ¬ j = 0 := by omega
        have HD := hid h
        clear h
        go_enter Tryd.func45, Tryd.ntmps45
        go_wp2_with (go_at_call 44; refine HC'.out.mono ?_; rintro e w1 ⟨rfl, hb1⟩; have hst := run_str ((HD.out.kept hb1).slice j m (by omega) (c - j) (by omega) (by omega)))
        go_ret2
        exact ⟨by rw [HR.out]; rfl, hb1⟩
end Go.Proofs.YtpgogpphobafoaaDoor
/-
  Rows that are appended to, of any element; of strings and of numbers.
-/
namespace Go.Proofs.YtpgogpphobafoaaDoor
open Go.RowKit
theorem info_of {P : Program} {e : TypeId} {z : Value} {size bytes : Nat} (h : (P.info? e).map (fun i => (i.zero, i.size, i.bytes)) = some (some z, size, bytes)) : ∃ i, P.info? e = some i ∧ i.zero = some z ∧ i.size = size ∧ i.bytes = bytes := by
  obtain ⟨i, hi, hz⟩ := Option.map_eq_some_iff.1 h
  simp only [Prod.mk.injEq] at hz
  exact ⟨i, hi, hz⟩
/-- append(dst, src...), and where the new row lies. -/
theorem run_append_row_at {P : Program} {w : World} (base : Nat) (t ty e : TypeId) (i : TypeInfo) (z : Value) (size bytes : Nat) (ht : P.underlying t = some (.slice e)) (hi : P.info? e = some i) (hz : i.zero = some z)
    (hsize : i.size = size) (hby : i.bytes = bytes) (hzs : z.cells.size = size) (hsz : 0 < size) (v : Value) (n : Nat) (xs : List Value) (hown : w.ownsRow base e size v n xs)
    (S : Nat → Prop) (src : Value) (m : Nat) (news : List Value) (hsrc : Rw w S src m news) (hl : news.length = m * size) (h1 : ∀ u ∈ news, u.oneCell' = true)
    (h63 : n + m ≤ maxLen) (hbytes : (n + m) * bytes ≤ 140737488355328) (hbase : base ≤ w.heap.size) :
    ∃ v' w', (Builtin.append_ #[t, t] ty #[v, src]).run P w = .ok v' w' ∧ w'.ownsRow base e size v' (n + m) (xs ++ news) ∧ w.grownBy w' v.ownBlock ∧ (v'.ownBlock = v.ownBlock ∨ v'.ownBlock = some w.heap.size) := by
  obtain ⟨a, c, rfl, h2, h3, h4, hn, h5⟩ := hsrc
  by_cases hm : 0 < m
  · obtain ⟨b, off, rfl, hb, hS, hc⟩ := h5 hm
    obtain ⟨v', w', hr, ho, hg, _, ha⟩ := run_append_own_at w base t ty e i z size bytes ht hi hz hsize hby hzs hsz v n xs hown ⟨b, off, none⟩ m c news hl (fun j u hu => by rw [Addr.add_lit]; exact hc j u hu) h1 h63 hbytes hbase
    exact ⟨v', w', hr, ho, hg, ha⟩
  · obtain rfl : m = 0 := by omega
    obtain rfl := h4 rfl
    cases a with
    | some ad =>
      obtain ⟨v', w', hr, ho, hg, _, ha⟩ := run_append_own_at w base t ty e i z size bytes ht hi hz hsize hby hzs hsz v n xs hown ad 0 c [] hl (fun j u hu => by simp at hu) h1 h63 hbytes hbase
      exact ⟨v', w', hr, ho, hg, ha⟩
    | none =>
      obtain rfl := hn rfl
      have hrun := run_append_owned_none (P := P) (w := w) base t ty e i size ht hi v n xs hown
      exact ⟨v, w, hrun, by simpa using hown, ⟨rfl, rfl, rfl, Nat.le_refl _, fun _ _ _ => rfl⟩, .inl rfl⟩
theorem wpList_append_row_at {P : Program} {w : World} {ops : Array Oper} {rest : List Oper} {o : Oper} {a : Act} {Q : Exit → Act → World → Prop} (hgd : o.guard = none) (s x : Operand) (t : TypeId)
    (ho : o.op = .call { callee := .builtin .append, args := #[s, x], argTypes := #[t, t] })
    (base : Nat) (e : TypeId) (i : TypeInfo) (z : Value) (size bytes : Nat) (ht : P.underlying t = some (.slice e)) (hi : P.info? e = some i) (hz : i.zero = some z)
    (hsize : i.size = size) (hby : i.bytes = bytes) (hzs : z.cells.size = size) (hsz : 0 < size) (v : Value) (n : Nat) (xs : List Value) (hs : a.eval s = v) (hown : w.ownsRow base e size v n xs)
    (S : Nat → Prop) (src : Value) (m : Nat) (news : List Value) (hx : a.eval x = src) (hsrc : Rw w S src m news) (hl : news.length = m * size) (h1 : ∀ u ∈ news, u.oneCell' = true)
    (h63 : n + m ≤ maxLen) (hbytes : (n + m) * bytes ≤ 140737488355328) (hbase : base ≤ w.heap.size)
    (h : ∀ v' w', w'.ownsRow base e size v' (n + m) (xs ++ news) → w.grownBy w' v.ownBlock → (v'.ownBlock = v.ownBlock ∨ v'.ownBlock = some w.heap.size) → wpList P ops Q rest (a.put o.dst v') w') : wpList P ops Q (o :: rest) a w := by
  refine wpList_plain hgd fun K hK => ?_
  obtain ⟨v', w', hr, h2, h3, h4⟩ := run_append_row_at (P := P) (w := w) base t o.type e i z size bytes ht hi hz hsize hby hzs hsz v n xs hown S src m news hsrc hl h1 h63 hbytes hbase
  unfold Oper.wp execOp
  simp only [ho, resolve, invoke, builtin, Sem.run_bind, Sem.run_pure, Result.andThen_ok, List.map_toArray, List.map_cons, List.map_nil, hs, hx, hr]
  exact hK _ _ (h v' w' h2 h3 h4)
theorem infoStr' : (Tryd.prog.info? 9).map (fun i => (i.zero, i.size, i.bytes)) = some (some (.string ⟨#[]⟩), 1, 16) := by kernel_rfl
theorem wpList_append_st1 {w : World} {ops : Array Oper} {rest : List Oper} {o : Oper} {a : Act} {Q : Exit → Act → World → Prop} (hgd : o.guard = none) (s x : Operand)
    (ho : o.op = .call { callee := .builtin .append, args := #[s, x], argTypes := #[22, 22] }) (v : Value) (n : Nat) (xs : List Value) (hs : a.eval s = v) (hown : w.ownsRow 0 9 1 v n xs)
    (g : Nat) (z : ByteArray) (hx : a.eval x = .slice (some ⟨g, 0, none⟩) 1 1) (hB : Bk w g 9 [.string z]) (hb : n ≤ 1048576)
    (h : ∀ a' n' c' w', w'.ownsRow 0 9 1 (.slice a' n' c') (n + 1) (xs ++ [.string z]) → w.grownBy w' v.ownBlock → ((Value.slice a' n' c').ownBlock = v.ownBlock ∨ (Value.slice a' n' c').ownBlock = some w.heap.size) → wpList Tryd.prog ops Q rest (a.put o.dst (.slice a' n' c')) w') : wpList Tryd.prog ops Q (o :: rest) a w := by
  obtain ⟨i, hi, hz, hsz, hby⟩ := info_of infoStr'
  refine wpList_append_row_at hgd s x 22 ho 0 9 i _ 1 16 Tryd.underlying22 hi hz hsz hby rfl (by decide) v n xs hs hown (fun _ => True) _ 1 [.string z] hx (hB.rw (Nat.le_refl _) (by omega) (fun h => by omega) _ trivial) rfl
    (by intro u hu; simp at hu; subst hu; rfl) (by unfold maxLen; omega) (by omega) (Nat.zero_le _) ?_
  intro v' w' k1 k2 k3
  obtain ⟨a', c', rfl⟩ := own_shape k1
  exact h a' _ c' w' k1 k2 k3
theorem infoInt' : (Tryd.prog.info? 3).map (fun i => (i.zero, i.size, i.bytes)) = some (some (.int .i64 0), 1, 8) := by kernel_rfl
theorem wpList_append_int1 {w : World} {ops : Array Oper} {rest : List Oper} {o : Oper} {a : Act} {Q : Exit → Act → World → Prop} (hgd : o.guard = none) (s x : Operand)
    (ho : o.op = .call { callee := .builtin .append, args := #[s, x], argTypes := #[23, 23] }) (v : Value) (n : Nat) (xs : List Value) (hs : a.eval s = v) (hown : w.ownsRow 0 3 1 v n xs)
    (g : Nat) (z : Int) (hx : a.eval x = .slice (some ⟨g, 0, none⟩) 1 1) (hB : Bk w g 3 [.int .i64 z]) (hb : n ≤ 1048576)
    (h : ∀ a' n' c' w', w'.ownsRow 0 3 1 (.slice a' n' c') (n + 1) (xs ++ [.int .i64 z]) → w.grownBy w' v.ownBlock → ((Value.slice a' n' c').ownBlock = v.ownBlock ∨ (Value.slice a' n' c').ownBlock = some w.heap.size) → wpList Tryd.prog ops Q rest (a.put o.dst (.slice a' n' c')) w') : wpList Tryd.prog ops Q (o :: rest) a w := by
  obtain ⟨i, hi, hz, hsz, hby⟩ := info_of infoInt'
  refine wpList_append_row_at hgd s x 23 ho 0 3 i _ 1 8 Tryd.underlying23 hi hz hsz hby rfl (by decide) v n xs hs hown (fun _ => True) _ 1 [.int .i64 z] hx (hB.rw (Nat.le_refl _) (by omega) (fun h => by omega) _ trivial) rfl
    (by intro u hu; simp at hu; subst hu; rfl) (by unfold maxLen; omega) (by omega) (Nat.zero_le _) ?_
  intro v' w' k1 k2 k3
  obtain ⟨a', c', rfl⟩ := own_shape k1
  exact h a' _ c' w' k1 k2 k3
end Go.Proofs.YtpgogpphobafoaaDoor
/-
  l04Same: two slices of bytes hold the same.
-/
namespace Go.Proofs.YtpgogpphobafoaaDoor
open Go.RowKit
def zAt (zs : List Int) (i : Nat) : Int := zs[i]?.getD 0
theorem strOf_eq {xs ys : List Int} (hx : ∀ z ∈ xs, 0 ≤ z ∧ z ≤ 255) (hy : ∀ z ∈ ys, 0 ≤ z ∧ z ≤ 255) (h : strOf xs = strOf ys) : xs = ys := by
  have key : ∀ (o : List Int), (∀ z ∈ o, 0 ≤ z ∧ z ≤ 255) → bytesOf (strOf o) = o := by
    intro o ho
    simp only [bytesOf, strOf, List.map_map]
    conv => rhs; rw [← List.map_id o]
    refine List.map_congr_left fun z hz => ?_
    have := ho z hz
    simp
    omega
  rw [← key xs hx, ← key ys hy, h]
set_option maxHeartbeats 800000 in
theorem same_any (a b : Option Addr) (n m c d : Nat) (xs ys : List Int) (w : World) (hx : Rd w a n c xs) (hy : Rd w b m d ys) :
    Calls Tryd.prog 46 #[.slice a n c, .slice b m d] w fun e w' => e = .returned (.bool (decide (xs = ys))) ∧ w = w' := by
  have h1 := run_str hx
  have h2 := run_str hy
  have b1 := at_byte hx.2.2.2.2.1
  have b2 := at_byte hy.2.2.2.2.1
  by_cases e : xs = ys
  · subst e
    generalize strOf xs = s at *
    rw [decide_eq_true rfl]
    clear b1 b2 hx hy
    go_enter Tryd.func46, Tryd.ntmps46
    go_wp2
    go_ret
    exact ⟨rfl, rfl⟩
  · have hne : ((strOf xs).toList == (strOf ys).toList) = false := by
      rw [beq_eq_false_iff_ne]
      exact fun h => e (strOf_eq b1 b2 (str_ext h))
    rw [decide_eq_false e]
    generalize strOf xs = s at *
    generalize strOf ys = t at *
    clear b1 b2 hx hy e
    go_enter Tryd.func46, Tryd.ntmps46
    go_wp2
    go_ret
    exact ⟨rfl, rfl⟩
end Go.Proofs.YtpgogpphobafoaaDoor
