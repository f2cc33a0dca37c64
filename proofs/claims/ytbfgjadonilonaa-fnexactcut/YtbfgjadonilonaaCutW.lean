/-
  The marks of a list of parts, written and found, also where there is none.
-/
import Derived.Test.YtbfgjadonilonaaCutQ
namespace Go.Proofs.Ytbfgjadonilonaa
open Go.RowKit
/-- The slice v of n parts holds the marks. -/
def Hl (w : World) (v : Value) (n : Nat) : Prop := (n = 0 ∧ ∃ a c, v = .slice a 0 c) ∨ ∃ g cap qs, v = .slice (some ⟨g, 0, none⟩) n cap ∧ Pb w g cap n qs ∧ ∀ i, i < n → pAt qs i = mk i
theorem Hl.kept {w w' : World} {v : Value} {n : Nat} (h : Hl w v n) (hb : Below w.heap.size w w') : Hl w' v n := by
  rcases h with h | ⟨g, cap, qs, h1, h2, h3⟩
  · exact .inl h
  · exact .inr ⟨g, cap, qs, h1, h2.kept hb, h3⟩
set_option maxHeartbeats 4000000 in
theorem markPartS_none (a : Option Addr) (c : Nat) (w : World) : Calls Try.prog 24 #[.slice a 0 c, .int .i64 1] w fun e w' => e = .returned (.int .i64 1) ∧ w = w' := by
  go_enter Try.func24, Try.ntmps24
  go_wp2_with fail
  go_loopw [1, 5] (fun x i wr => x = .int .i64 1 ∧ i = .int .i64 0 ∧ wr = w) (fun _ _ _ => 0)
  case atStart => exact ⟨rfl, rfl, rfl⟩
  case round =>
    obtain ⟨rfl, rfl, rfl⟩ := hrel
    go_wp2
    go_ret
    exact ⟨rfl, rfl⟩
set_option maxHeartbeats 4000000 in
theorem heldPartS_none (a : Option Addr) (c : Nat) (w : World) : Calls Try.prog 25 #[.slice a 0 c, .int .i64 1] w fun e w' => e = .returned (.int .i64 1) ∧ w = w' := by
  go_enter Try.func25, Try.ntmps25
  go_wp2_with fail
  go_loopw [1, 5] (fun x i wr => x = .int .i64 1 ∧ i = .int .i64 0 ∧ wr = w) (fun _ _ _ => 0)
  case atStart => exact ⟨rfl, rfl, rfl⟩
  case round =>
    obtain ⟨rfl, rfl, rfl⟩ := hrel
    go_wp2
    go_ret
    exact ⟨rfl, rfl⟩
theorem markPartS_any (v : Value) (B : Nat) (ps : List (Int × ByteArray × ByteArray)) (n : Nat) (w : World) (h : Pw w B v ps) (hl : ps.length = n) (hn : n ≤ 1048577) :
    Calls Try.prog 24 #[v, .int .i64 1] w fun e w' => e = .returned (.int .i64 ((n * 3 + 1 : Nat) : Int)) ∧ Hl w' v n ∧ w.grownBy w' v.ownBlock := by
  subst hl
  rcases Nat.eq_zero_or_pos ps.length with h0 | hp
  · obtain ⟨a, c, rfl⟩ := h.shape
    rw [h0]
    refine (markPartS_none a c w).mono ?_
    rintro e w' ⟨rfl, rfl⟩
    exact ⟨rfl, .inl ⟨rfl, a, c, rfl⟩, grownBy_same _ _⟩
  · obtain ⟨g, cap, rfl, _, _⟩ := h.some hp
    refine (markPartB_any g cap ps.length ps w (h.pb rfl) hn).mono ?_
    rintro e w' ⟨rfl, ⟨qs, h1, h2⟩, hg⟩
    exact ⟨rfl, .inr ⟨g, cap, qs, rfl, h1, h2⟩, hg⟩
theorem heldPartS_any (v : Value) (n : Nat) (w : World) (h : Hl w v n) (hn : n ≤ 1048577) :
    Calls Try.prog 25 #[v, .int .i64 1] w fun e w' => e = .returned (.int .i64 ((n * 3 + 1 : Nat) : Int)) ∧ Below w.heap.size w w' := by
  rcases h with ⟨rfl, a, c, rfl⟩ | ⟨g, cap, qs, rfl, h2, h3⟩
  · refine (heldPartS_none a c w).mono ?_
    rintro e w' ⟨rfl, rfl⟩
    exact ⟨rfl, Below.refl _ _⟩
  · exact heldPartB_any g cap n qs w h2 h3 hn
/-- A block that holds a range is kept, with all else that was there. -/
structure Rr (u v : World) (g : Nat) (lo hi : ByteArray) : Prop where
  a0 : u.cell? ⟨g, 0, none⟩ = some (.string lo)
  a1 : u.cell? ⟨g, 1, none⟩ = some (.string hi)
  bel : Below u.heap.size u v
theorem Rr.cells {u v : World} {g : Nat} {lo hi : ByteArray} (T : Rr u v g lo hi) : v.cell? ⟨g, 0, none⟩ = some (.string lo) ∧ v.cell? ⟨g, 1, none⟩ = some (.string hi) ∧ Rr u v g lo hi := ⟨cell_kept T.a0 T.bel, cell_kept T.a1 T.bel, T⟩
theorem Rr.call {u v v' : World} {g : Nat} {lo hi : ByteArray} (k : Below v.heap.size v v') (h : v.cell? ⟨g, 0, none⟩ = some (.string lo) ∧ v.cell? ⟨g, 1, none⟩ = some (.string hi) ∧ Rr u v g lo hi) : v'.cell? ⟨g, 0, none⟩ = some (.string lo) ∧ v'.cell? ⟨g, 1, none⟩ = some (.string hi) ∧ Rr u v' g lo hi :=
  Rr.cells { h.2.2 with bel := thn3 h.2.2.bel k }
theorem Rr.sd {u v : World} {g n c : Nat} {a : Option Addr} {ss : List ByteArray} {lo hi : ByteArray} (h : v.cell? ⟨g, 0, none⟩ = some (.string lo) ∧ v.cell? ⟨g, 1, none⟩ = some (.string hi) ∧ Rr u v g lo hi) (H : Sd u a n c ss) : Sd v a n c ss := H.kept h.2.2.bel
theorem Rr.of {u v : World} {g : Nat} {lo hi : ByteArray} (h : v.cell? ⟨g, 0, none⟩ = some (.string lo) ∧ v.cell? ⟨g, 1, none⟩ = some (.string hi) ∧ Rr u v g lo hi) : Rr u v g lo hi := h.2.2
theorem Pw.grown {w w' : World} {B : Nat} {v : Value} {ps : List (Int × ByteArray × ByteArray)} {row : Option Nat} (h : Pw w B v ps) (hg : w.grownBy w' row) (hne : ∀ k, v.ownBlock = Option.some k → row ≠ Option.some k) : Pw w' B v ps :=
  World.ownsRow.kept h hg (by
    cases hv : v.ownBlock with
    | none => exact .inl rfl
    | some k => exact .inr (fun e => hne k hv e.symm))
theorem below_grown {u w w' : World} {X : Nat} (h : Below u.heap.size u w) (hg : w.grownBy w' (some X)) (hX : u.heap.size ≤ X) : Below u.heap.size u w' :=
  ⟨hg.os.trans h.os, hg.tape.trans h.tape, hg.output.trans h.output, Nat.le_trans h.size hg.size, fun k hk => (hg.block k (Nat.lt_of_lt_of_le hk h.size) (fun e => by cases e; omega)).trans (h.block k hk)⟩
theorem below_grown' {u w w' : World} {row : Option Nat} (h : Below u.heap.size u w) (hg : w.grownBy w' row) (hX : ∀ k, row = some k → u.heap.size ≤ k) : Below u.heap.size u w' :=
  ⟨hg.os.trans h.os, hg.tape.trans h.tape, hg.output.trans h.output, Nat.le_trans h.size hg.size, fun k hk => (hg.block k (Nat.lt_of_lt_of_le hk h.size) (fun e => by have := hX k e.symm; omega)).trans (h.block k hk)⟩
end Go.Proofs.Ytbfgjadonilonaa
