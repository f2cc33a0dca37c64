/-
  Cells that are kept, with all else that was there, while a stretch of the program reads and calls in an order that is not known.
-/
import Derived.Test.YtnbafoennnhppabKV
import Derived.Deep.RegionHeld3
namespace Go.Proofs.Ytnbafoennnhppab
open Go.RowKit
structure KC (u v : World) (cs : List (Addr × Value)) : Prop where
  cells : ∀ p ∈ cs, u.cell? p.1 = some p.2
  bel : Below u.heap.size u v
theorem KC.at {u v : World} {cs : List (Addr × Value)} (h : KC u v cs) {a : Addr} {x : Value} (hp : (a, x) ∈ cs) : v.cell? a = some x := by
  have hc := h.cells (a, x) hp
  rw [h.bel.cell (p := a) (block_lt hc)]
  exact hc
theorem KC.call {u v v' : World} {cs : List (Addr × Value)} (h : KC u v cs) (k : Below v.heap.size v v') : KC u v' cs := ⟨h.cells, h.bel.trans (k.mono h.bel.size)⟩
theorem kc2 {u v : World} {a0 a1 : Addr} {x0 x1 : Value} (h : KC u v [(a0, x0), (a1, x1)]) : v.cell? a0 = some x0 ∧ v.cell? a1 = some x1 ∧ KC u v [(a0, x0), (a1, x1)] := ⟨h.at (by simp), h.at (by simp), h⟩
theorem kc3 {u v : World} {a0 a1 a2 : Addr} {x0 x1 x2 : Value} (h : KC u v [(a0, x0), (a1, x1), (a2, x2)]) : v.cell? a0 = some x0 ∧ v.cell? a1 = some x1 ∧ v.cell? a2 = some x2 ∧ KC u v [(a0, x0), (a1, x1), (a2, x2)] := ⟨h.at (by simp), h.at (by simp), h.at (by simp), h⟩
theorem kc4 {u v : World} {a0 a1 a2 a3 : Addr} {x0 x1 x2 x3 : Value} (h : KC u v [(a0, x0), (a1, x1), (a2, x2), (a3, x3)]) : v.cell? a0 = some x0 ∧ v.cell? a1 = some x1 ∧ v.cell? a2 = some x2 ∧ v.cell? a3 = some x3 ∧ KC u v [(a0, x0), (a1, x1), (a2, x2), (a3, x3)] := ⟨h.at (by simp), h.at (by simp), h.at (by simp), h.at (by simp), h⟩
theorem kc5 {u v : World} {a0 a1 a2 a3 a4 : Addr} {x0 x1 x2 x3 x4 : Value} (h : KC u v [(a0, x0), (a1, x1), (a2, x2), (a3, x3), (a4, x4)]) : v.cell? a0 = some x0 ∧ v.cell? a1 = some x1 ∧ v.cell? a2 = some x2 ∧ v.cell? a3 = some x3 ∧ v.cell? a4 = some x4 ∧ KC u v [(a0, x0), (a1, x1), (a2, x2), (a3, x3), (a4, x4)] := ⟨h.at (by simp), h.at (by simp), h.at (by simp), h.at (by simp), h.at (by simp), h⟩
theorem kc6 {u v : World} {a0 a1 a2 a3 a4 a5 : Addr} {x0 x1 x2 x3 x4 x5 : Value} (h : KC u v [(a0, x0), (a1, x1), (a2, x2), (a3, x3), (a4, x4), (a5, x5)]) : v.cell? a0 = some x0 ∧ v.cell? a1 = some x1 ∧ v.cell? a2 = some x2 ∧ v.cell? a3 = some x3 ∧ v.cell? a4 = some x4 ∧ v.cell? a5 = some x5 ∧ KC u v [(a0, x0), (a1, x1), (a2, x2), (a3, x3), (a4, x4), (a5, x5)] := ⟨h.at (by simp), h.at (by simp), h.at (by simp), h.at (by simp), h.at (by simp), h.at (by simp), h⟩
theorem kc0_2 {u : World} {a0 a1 : Addr} {x0 x1 : Value} (h0 : u.cell? a0 = some x0) (h1 : u.cell? a1 = some x1) : KC u u [(a0, x0), (a1, x1)] :=
  ⟨fun p hp => by simp at hp; rcases hp with rfl | rfl <;> assumption, Below.refl _ _⟩
theorem kc0_3 {u : World} {a0 a1 a2 : Addr} {x0 x1 x2 : Value} (h0 : u.cell? a0 = some x0) (h1 : u.cell? a1 = some x1) (h2 : u.cell? a2 = some x2) : KC u u [(a0, x0), (a1, x1), (a2, x2)] :=
  ⟨fun p hp => by simp at hp; rcases hp with rfl | rfl | rfl <;> assumption, Below.refl _ _⟩
theorem kc0_4 {u : World} {a0 a1 a2 a3 : Addr} {x0 x1 x2 x3 : Value} (h0 : u.cell? a0 = some x0) (h1 : u.cell? a1 = some x1) (h2 : u.cell? a2 = some x2) (h3 : u.cell? a3 = some x3) : KC u u [(a0, x0), (a1, x1), (a2, x2), (a3, x3)] :=
  ⟨fun p hp => by simp at hp; rcases hp with rfl | rfl | rfl | rfl <;> assumption, Below.refl _ _⟩
theorem kc0_6 {u : World} {a0 a1 a2 a3 a4 a5 : Addr} {x0 x1 x2 x3 x4 x5 : Value} (h0 : u.cell? a0 = some x0) (h1 : u.cell? a1 = some x1) (h2 : u.cell? a2 = some x2) (h3 : u.cell? a3 = some x3) (h4 : u.cell? a4 = some x4) (h5 : u.cell? a5 = some x5) : KC u u [(a0, x0), (a1, x1), (a2, x2), (a3, x3), (a4, x4), (a5, x5)] :=
  ⟨fun p hp => by simp at hp; rcases hp with rfl | rfl | rfl | rfl | rfl | rfl <;> assumption, Below.refl _ _⟩
theorem kc2c {u v v' : World} {a0 a1 : Addr} {x0 x1 : Value} (k : Below v.heap.size v v') (h : v.cell? a0 = some x0 ∧ v.cell? a1 = some x1 ∧ KC u v [(a0, x0), (a1, x1)]) : v'.cell? a0 = some x0 ∧ v'.cell? a1 = some x1 ∧ KC u v' [(a0, x0), (a1, x1)] := kc2 (KC.call h.2.2 k)
theorem kc3c {u v v' : World} {a0 a1 a2 : Addr} {x0 x1 x2 : Value} (k : Below v.heap.size v v') (h : v.cell? a0 = some x0 ∧ v.cell? a1 = some x1 ∧ v.cell? a2 = some x2 ∧ KC u v [(a0, x0), (a1, x1), (a2, x2)]) : v'.cell? a0 = some x0 ∧ v'.cell? a1 = some x1 ∧ v'.cell? a2 = some x2 ∧ KC u v' [(a0, x0), (a1, x1), (a2, x2)] := kc3 (KC.call h.2.2.2 k)
theorem kc4c {u v v' : World} {a0 a1 a2 a3 : Addr} {x0 x1 x2 x3 : Value} (k : Below v.heap.size v v') (h : v.cell? a0 = some x0 ∧ v.cell? a1 = some x1 ∧ v.cell? a2 = some x2 ∧ v.cell? a3 = some x3 ∧ KC u v [(a0, x0), (a1, x1), (a2, x2), (a3, x3)]) : v'.cell? a0 = some x0 ∧ v'.cell? a1 = some x1 ∧ v'.cell? a2 = some x2 ∧ v'.cell? a3 = some x3 ∧ KC u v' [(a0, x0), (a1, x1), (a2, x2), (a3, x3)] := kc4 (KC.call h.2.2.2.2 k)
theorem kc5c {u v v' : World} {a0 a1 a2 a3 a4 : Addr} {x0 x1 x2 x3 x4 : Value} (k : Below v.heap.size v v') (h : v.cell? a0 = some x0 ∧ v.cell? a1 = some x1 ∧ v.cell? a2 = some x2 ∧ v.cell? a3 = some x3 ∧ v.cell? a4 = some x4 ∧ KC u v [(a0, x0), (a1, x1), (a2, x2), (a3, x3), (a4, x4)]) : v'.cell? a0 = some x0 ∧ v'.cell? a1 = some x1 ∧ v'.cell? a2 = some x2 ∧ v'.cell? a3 = some x3 ∧ v'.cell? a4 = some x4 ∧ KC u v' [(a0, x0), (a1, x1), (a2, x2), (a3, x3), (a4, x4)] := kc5 (KC.call h.2.2.2.2.2 k)
theorem kc6c {u v v' : World} {a0 a1 a2 a3 a4 a5 : Addr} {x0 x1 x2 x3 x4 x5 : Value} (k : Below v.heap.size v v') (h : v.cell? a0 = some x0 ∧ v.cell? a1 = some x1 ∧ v.cell? a2 = some x2 ∧ v.cell? a3 = some x3 ∧ v.cell? a4 = some x4 ∧ v.cell? a5 = some x5 ∧ KC u v [(a0, x0), (a1, x1), (a2, x2), (a3, x3), (a4, x4), (a5, x5)]) : v'.cell? a0 = some x0 ∧ v'.cell? a1 = some x1 ∧ v'.cell? a2 = some x2 ∧ v'.cell? a3 = some x3 ∧ v'.cell? a4 = some x4 ∧ v'.cell? a5 = some x5 ∧ KC u v' [(a0, x0), (a1, x1), (a2, x2), (a3, x3), (a4, x4), (a5, x5)] := kc6 (KC.call h.2.2.2.2.2.2 k)
end Go.Proofs.Ytnbafoennnhppab

