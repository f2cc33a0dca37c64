/-
  As DrP, with what is known of each element: the page that is drawn, what is kept at hand.
-/
import Derived.Test.YtcpdedpgjaimkaaDoorMs3
import Derived.Laws.Cover1
import Derived.Maps.AppendAt
import Derived.Laws.CopyRow
import Derived.Lib.AppendZerosOnto
import Derived.Lib.Overlaps
import Derived.Deep.RegionLaw
import Derived.Test.YtcpdedpgjaimkaaDoorMs1
import Derived.Deep.DeepCutAuto
import Derived.Lib.Bytealg
namespace Go.Proofs.YtcpdedpgjaimkaaDoor
open Go.RowKit
def isKid (_ : Nat) (u : Value) : Prop := ∃ x : Int, u = .int .i64 x ∧ 2 ≤ x ∧ x < 400
/-- The page that is being drawn lies in the box behind the result's; its rows are apart and lie behind it; g is the cursor. -/
structure DPx (w v : World) (g : Nat) (kv vv iv : Value) (nk nv ni : Nat) (K V : Nat → Value → Prop) : Prop where
  gr : w.grownBy v (some g)
  cu : Cu v g
  rb : Bk v w.heap.size 69 [.slice none 0 0, .slice none 0 0, .slice none 0 0]
  bk : Bk v (w.heap.size + 1) 69 [kv, vv, iv]
  hk : Fx v 9 K kv nk
  hv : Fx v 9 V vv nv
  hi : Fx v 3 isKid iv ni
  lo : ∀ y, (kv.ownBlock = some y ∨ vv.ownBlock = some y ∨ iv.ownBlock = some y) → w.heap.size + 1 < y
  ap : ∀ y, (kv.ownBlock = some y → vv.ownBlock ≠ some y ∧ iv.ownBlock ≠ some y) ∧ (vv.ownBlock = some y → iv.ownBlock ≠ some y)
  lt : g < w.heap.size
theorem DPx.to {w v v' : World} {g : Nat} {kv vv iv : Value} {nk nv ni : Nat} {K V : Nat → Value → Prop} (h : DPx w v g kv vv iv nk nv ni K V) {R : Nat → Prop} (ho : Only R v v') (hc : Cu v' g) (hR : ∀ y, R y → y ≤ w.heap.size + 1 → y = g) (hk : ∀ y, (kv.ownBlock = some y ∨ vv.ownBlock = some y ∨ iv.ownBlock = some y) → ¬ R y) : DPx w v' g kv vv iv nk nv ni K V := by
  have hlt := h.lt
  have hs := h.gr.size
  refine ⟨⟨ho.os.trans h.gr.os, ho.tape.trans h.gr.tape, ho.output.trans h.gr.output, Nat.le_trans hs ho.size, fun k hk1 hne => ?_⟩, hc, h.rb.to ho (fun hr => by have := hR _ hr (by omega); omega), h.bk.to ho (fun hr => by have := hR _ hr (by omega); omega), h.hk.to ho (fun y e => hk y (.inl e)), h.hv.to ho (fun y e => hk y (.inr (.inl e))), h.hi.to ho (fun y e => hk y (.inr (.inr e))), h.lo, h.ap, hlt⟩
  rw [ho.block k (by omega) (fun hr => hne (by rw [hR k hr (by omega)]))]
  exact h.gr.block k hk1 hne
theorem DPx.draw {w v v' : World} {g : Nat} {kv vv iv : Value} {nk nv ni : Nat} {K V : Nat → Value → Prop} (h : DPx w v g kv vv iv nk nv ni K V) (hg : v.grownBy v' (some g)) (hc : Cu v' g) : DPx w v' g kv vv iv nk nv ni K V :=
  h.to (R := fun y => y = g) (only_of_grown hg (fun k e => by cases e; rfl)) hc (fun y e _ => e) (fun y hy e => by have := h.lo y hy; have := h.lt; omega)
theorem DPx.below {w v v' : World} {g : Nat} {kv vv iv : Value} {nk nv ni : Nat} {K V : Nat → Value → Prop} (h : DPx w v g kv vv iv nk nv ni K V) (hb : Below v.heap.size v v') : DPx w v' g kv vv iv nk nv ni K V :=
  h.to (R := fun _ => False) (only_of_below hb _) (h.cu.below hb) (fun _ e => e.elim) (fun _ _ e => e)
theorem DPx.cells {w v : World} {g : Nat} {kv vv iv : Value} {nk nv ni : Nat} {K V : Nat → Value → Prop} (h : DPx w v g kv vv iv nk nv ni K V) :
    (v.cell? ⟨w.heap.size + 1, 0, none⟩ = some kv ∧ v.cell? ⟨w.heap.size + 1, 1, none⟩ = some vv ∧ v.cell? ⟨w.heap.size + 1, 2, none⟩ = some iv) ∧ (v.frozen? ⟨w.heap.size + 1, 0, none⟩ = false ∧ v.frozen? ⟨w.heap.size + 1, 1, none⟩ = false ∧ v.frozen? ⟨w.heap.size + 1, 2, none⟩ = false) :=
  ⟨⟨h.bk.cell (j := 0) rfl, h.bk.cell (j := 1) rfl, h.bk.cell (j := 2) rfl⟩, h.bk.free 0, h.bk.free 1, h.bk.free 2⟩
theorem DPx.rcells {w v : World} {g : Nat} {kv vv iv : Value} {nk nv ni : Nat} {K V : Nat → Value → Prop} (h : DPx w v g kv vv iv nk nv ni K V) :
    (v.cell? ⟨w.heap.size, 0, none⟩ = some (.slice none 0 0) ∧ v.cell? ⟨w.heap.size, 1, none⟩ = some (.slice none 0 0) ∧ v.cell? ⟨w.heap.size, 2, none⟩ = some (.slice none 0 0)) ∧ (v.frozen? ⟨w.heap.size, 0, none⟩ = false ∧ v.frozen? ⟨w.heap.size, 1, none⟩ = false ∧ v.frozen? ⟨w.heap.size, 2, none⟩ = false) :=
  ⟨⟨h.rb.cell (j := 0) rfl, h.rb.cell (j := 1) rfl, h.rb.cell (j := 2) rfl⟩, h.rb.free 0, h.rb.free 1, h.rb.free 2⟩
theorem DPx.ne {w v : World} {g : Nat} {kv vv iv : Value} {nk nv ni : Nat} {K V : Nat → Value → Prop} (h : DPx w v g kv vv iv nk nv ni K V) : kv.ownBlock ≠ some (w.heap.size + 1) ∧ vv.ownBlock ≠ some (w.heap.size + 1) ∧ iv.ownBlock ≠ some (w.heap.size + 1) :=
  ⟨fun e => by have := h.lo _ (.inl e); omega, fun e => by have := h.lo _ (.inr (.inl e)); omega, fun e => by have := h.lo _ (.inr (.inr e)); omega⟩
/-- A field of the page turns: others' rows alone are kept. -/
theorem DPx.key {w v v1 : World} {g : Nat} {kv vv iv nw : Value} {nk nv ni nk' : Nat} {K V K' : Nat → Value → Prop} (h : DPx w v g kv vv iv nk nv ni K V) {R : Nat → Prop} (ho : Only R v v1) (hR : ∀ y, R y → w.heap.size + 1 < y ∧ vv.ownBlock ≠ some y ∧ iv.ownBlock ≠ some y) (hc : Cu v1 g)
    (hF : Fx v1 9 K' nw nk') (hn : ∀ y, nw.ownBlock = some y → w.heap.size + 1 < y ∧ vv.ownBlock ≠ some y ∧ iv.ownBlock ≠ some y) : DPx w (v1.setCell ⟨w.heap.size + 1, 0, none⟩ nw) g nw vv iv nk' nv ni K' V := by
  have hlt := h.lt
  have hs := h.gr.size
  have ho2 : Only (fun y => y = w.heap.size + 1) v1 (v1.setCell ⟨w.heap.size + 1, 0, none⟩ nw) := only_set (R := fun y => y = w.heap.size + 1) rfl _
  have hl1 := h.bk.lt
  refine ⟨⟨(ho2.os.trans ho.os).trans h.gr.os, (ho2.tape.trans ho.tape).trans h.gr.tape, (ho2.output.trans ho.output).trans h.gr.output, Nat.le_trans hs (Nat.le_trans ho.size ho2.size), fun k hk1 hne => ?_⟩, hc.setP _ _ _ (by omega), (h.rb.to ho (fun hr => by have := (hR _ hr).1; omega)).setOther (by omega) _ _, (h.bk.to ho (fun hr => by have := (hR _ hr).1; omega)).set 0 nw, hF.to ho2 (fun y e hr => by have := (hn y e).1; omega), (h.hv.to ho (fun y e hr => (hR y hr).2.1 e)).to ho2 (fun y e hr => by have := h.lo y (.inr (.inl e)); omega), (h.hi.to ho (fun y e hr => (hR y hr).2.2 e)).to ho2 (fun y e hr => by have := h.lo y (.inr (.inr e)); omega), ?_, ?_, hlt⟩
  · rw [ho2.block k (by have := ho.size; omega) (by omega), ho.block k (by omega) (fun hr => by have := (hR k hr).1; omega)]
    exact h.gr.block k hk1 hne
  · rintro y (e | e | e)
    · exact (hn y e).1
    · exact h.lo y (.inr (.inl e))
    · exact h.lo y (.inr (.inr e))
  · exact fun y => ⟨fun e => (hn y e).2, (h.ap y).2⟩
theorem DPx.val {w v v1 : World} {g : Nat} {kv vv iv nw : Value} {nk nv ni nv' : Nat} {K V V' : Nat → Value → Prop} (h : DPx w v g kv vv iv nk nv ni K V) {R : Nat → Prop} (ho : Only R v v1) (hR : ∀ y, R y → w.heap.size + 1 < y ∧ kv.ownBlock ≠ some y ∧ iv.ownBlock ≠ some y) (hc : Cu v1 g)
    (hF : Fx v1 9 V' nw nv') (hn : ∀ y, nw.ownBlock = some y → w.heap.size + 1 < y ∧ kv.ownBlock ≠ some y ∧ iv.ownBlock ≠ some y) : DPx w (v1.setCell ⟨w.heap.size + 1, 1, none⟩ nw) g kv nw iv nk nv' ni K V' := by
  have hlt := h.lt
  have hs := h.gr.size
  have ho2 : Only (fun y => y = w.heap.size + 1) v1 (v1.setCell ⟨w.heap.size + 1, 1, none⟩ nw) := only_set (R := fun y => y = w.heap.size + 1) rfl _
  have hl1 := h.bk.lt
  refine ⟨⟨(ho2.os.trans ho.os).trans h.gr.os, (ho2.tape.trans ho.tape).trans h.gr.tape, (ho2.output.trans ho.output).trans h.gr.output, Nat.le_trans hs (Nat.le_trans ho.size ho2.size), fun k hk1 hne => ?_⟩, hc.setP _ _ _ (by omega), (h.rb.to ho (fun hr => by have := (hR _ hr).1; omega)).setOther (by omega) _ _, (h.bk.to ho (fun hr => by have := (hR _ hr).1; omega)).set 1 nw, (h.hk.to ho (fun y e hr => (hR y hr).2.1 e)).to ho2 (fun y e hr => by have := h.lo y (.inl e); omega), hF.to ho2 (fun y e hr => by have := (hn y e).1; omega), (h.hi.to ho (fun y e hr => (hR y hr).2.2 e)).to ho2 (fun y e hr => by have := h.lo y (.inr (.inr e)); omega), ?_, ?_, hlt⟩
  · rw [ho2.block k (by have := ho.size; omega) (by omega), ho.block k (by omega) (fun hr => by have := (hR k hr).1; omega)]
    exact h.gr.block k hk1 hne
  · rintro y (e | e | e)
    · exact h.lo y (.inl e)
    · exact (hn y e).1
    · exact h.lo y (.inr (.inr e))
  · exact fun y => ⟨fun e => ⟨fun e2 => (hn y e2).2.1 e, ((h.ap y).1 e).2⟩, fun e => (hn y e).2.2⟩
theorem DPx.kid {w v v1 : World} {g : Nat} {kv vv iv nw : Value} {nk nv ni ni' : Nat} {K V : Nat → Value → Prop} (h : DPx w v g kv vv iv nk nv ni K V) {R : Nat → Prop} (ho : Only R v v1) (hR : ∀ y, R y → w.heap.size + 1 < y ∧ kv.ownBlock ≠ some y ∧ vv.ownBlock ≠ some y) (hc : Cu v1 g)
    (hF : Fx v1 3 isKid nw ni') (hn : ∀ y, nw.ownBlock = some y → w.heap.size + 1 < y ∧ kv.ownBlock ≠ some y ∧ vv.ownBlock ≠ some y) : DPx w (v1.setCell ⟨w.heap.size + 1, 2, none⟩ nw) g kv vv nw nk nv ni' K V := by
  have hlt := h.lt
  have hs := h.gr.size
  have ho2 : Only (fun y => y = w.heap.size + 1) v1 (v1.setCell ⟨w.heap.size + 1, 2, none⟩ nw) := only_set (R := fun y => y = w.heap.size + 1) rfl _
  have hl1 := h.bk.lt
  refine ⟨⟨(ho2.os.trans ho.os).trans h.gr.os, (ho2.tape.trans ho.tape).trans h.gr.tape, (ho2.output.trans ho.output).trans h.gr.output, Nat.le_trans hs (Nat.le_trans ho.size ho2.size), fun k hk1 hne => ?_⟩, hc.setP _ _ _ (by omega), (h.rb.to ho (fun hr => by have := (hR _ hr).1; omega)).setOther (by omega) _ _, (h.bk.to ho (fun hr => by have := (hR _ hr).1; omega)).set 2 nw, (h.hk.to ho (fun y e hr => (hR y hr).2.1 e)).to ho2 (fun y e hr => by have := h.lo y (.inl e); omega), (h.hv.to ho (fun y e hr => (hR y hr).2.2 e)).to ho2 (fun y e hr => by have := h.lo y (.inr (.inl e)); omega), hF.to ho2 (fun y e hr => by have := (hn y e).1; omega), ?_, ?_, hlt⟩
  · rw [ho2.block k (by have := ho.size; omega) (by omega), ho.block k (by omega) (fun hr => by have := (hR k hr).1; omega)]
    exact h.gr.block k hk1 hne
  · rintro y (e | e | e)
    · exact h.lo y (.inl e)
    · exact h.lo y (.inr (.inl e))
    · exact (hn y e).1
  · exact fun y => ⟨fun e => ⟨((h.ap y).1 e).1, fun e2 => (hn y e2).2.1 e⟩, fun e e2 => (hn y e2).2.2 e⟩
theorem DPx.ltk {w v : World} {g : Nat} {kv vv iv : Value} {nk nv ni : Nat} {K V : Nat → Value → Prop} (h : DPx w v g kv vv iv nk nv ni K V) : w.heap.size + 1 < v.heap.size := h.bk.lt
/-- append to each of the fields. -/
theorem DPx.addK {w v v1 : World} {g : Nat} {kv vv iv nw : Value} {nk nv ni : Nat} {K V : Nat → Value → Prop} (h : DPx w v g kv vv iv nk nv ni K V) (hg : FxGot v 9 K kv nk nw v1) : DPx w (v1.setCell ⟨w.heap.size + 1, 0, none⟩ nw) g nw vv iv (nk + 1) nv ni K V := by
  have hlk := h.ltk
  refine h.key (R := fun y => kv.ownBlock = some y) (only_of_grown hg.2.1 (fun k e => e)) (fun y e => ⟨h.lo y (.inl e), ((h.ap y).1 e).1, ((h.ap y).1 e).2⟩) (h.cu.kept hg.2.1 (fun k e => by have := h.lo k (.inl e); have := h.lt; omega)) hg.1 (fun y e => ?_)
  rcases hg.2.2 with e2 | ⟨k, e2, hk⟩
  · rw [e2] at e
    exact ⟨h.lo y (.inl e), (h.ap y).1 e⟩
  · rw [e2] at e
    cases e
    exact ⟨by omega, fun e3 => by have := h.hv.lt e3; omega, fun e3 => by have := h.hi.lt e3; omega⟩
theorem DPx.addV {w v v1 : World} {g : Nat} {kv vv iv nw : Value} {nk nv ni : Nat} {K V : Nat → Value → Prop} (h : DPx w v g kv vv iv nk nv ni K V) (hg : FxGot v 9 V vv nv nw v1) : DPx w (v1.setCell ⟨w.heap.size + 1, 1, none⟩ nw) g kv nw iv nk (nv + 1) ni K V := by
  have hlk := h.ltk
  refine h.val (R := fun y => vv.ownBlock = some y) (only_of_grown hg.2.1 (fun k e => e)) (fun y e => ⟨h.lo y (.inr (.inl e)), fun e2 => ((h.ap y).1 e2).1 e, (h.ap y).2 e⟩) (h.cu.kept hg.2.1 (fun k e => by have := h.lo k (.inr (.inl e)); have := h.lt; omega)) hg.1 (fun y e => ?_)
  rcases hg.2.2 with e2 | ⟨k, e2, hk⟩
  · rw [e2] at e
    exact ⟨h.lo y (.inr (.inl e)), fun e3 => ((h.ap y).1 e3).1 e, (h.ap y).2 e⟩
  · rw [e2] at e
    cases e
    exact ⟨by omega, fun e3 => by have := h.hk.lt e3; omega, fun e3 => by have := h.hi.lt e3; omega⟩
theorem DPx.addI {w v v1 : World} {g : Nat} {kv vv iv nw : Value} {nk nv ni : Nat} {K V : Nat → Value → Prop} (h : DPx w v g kv vv iv nk nv ni K V) (hg : FxGot v 3 isKid iv ni nw v1) : DPx w (v1.setCell ⟨w.heap.size + 1, 2, none⟩ nw) g kv vv nw nk nv (ni + 1) K V := by
  have hlk := h.ltk
  refine h.kid (R := fun y => iv.ownBlock = some y) (only_of_grown hg.2.1 (fun k e => e)) (fun y e => ⟨h.lo y (.inr (.inr e)), fun e2 => ((h.ap y).1 e2).2 e, fun e2 => (h.ap y).2 e2 e⟩) (h.cu.kept hg.2.1 (fun k e => by have := h.lo k (.inr (.inr e)); have := h.lt; omega)) hg.1 (fun y e => ?_)
  rcases hg.2.2 with e2 | ⟨k, e2, hk⟩
  · rw [e2] at e
    exact ⟨h.lo y (.inr (.inr e)), fun e3 => ((h.ap y).1 e3).2 e, fun e3 => (h.ap y).2 e3 e⟩
  · rw [e2] at e
    cases e
    exact ⟨by omega, fun e3 => by have := h.hk.lt e3; omega, fun e3 => by have := h.hv.lt e3; omega⟩
/-- What l04Page answers: a right page whose rows may be read. -/
def DpX (w : World) (g : Nat) (e : Ending) (w' : World) : Prop := ∃ (ka : Option Addr) (kn kc : Nat) (va : Option Addr) (vn vc : Nat) (ia : Option Addr) (jn ic : Nat) (p : PG), e = .returned (.agg #[.slice ka kn kc, .slice va vn vc, .slice ia jn ic]) ∧ pgOk p = true ∧
  w.grownBy w' (some g) ∧ Cu w' g ∧ Pgr w' (fun y => w.heap.size + 1 < y) ka kn kc va vn vc ia jn ic p
theorem strs_at : ∀ (xs : List Value) (f : Nat → ByteArray), (∀ j (u : Value), xs[j]? = some u → u = .string (f j)) → xs = ((List.range xs.length).map f).map Value.string := by
  intro xs f h
  apply List.ext_getElem (by simp)
  intro i h1 h2
  simp
  exact h i _ (by simp [h1])
theorem kids_at : ∀ (xs : List Value), (∀ j u, xs[j]? = some u → isKid j u) → ∃ l : List Int, xs = l.map (Value.int .i64) ∧ ∀ x ∈ l, 2 ≤ x ∧ x < 400
  | [], _ => ⟨[], rfl, fun x hx => by cases hx⟩
  | u :: xs, h => by
    obtain ⟨x, rfl, hx⟩ := h 0 u rfl
    obtain ⟨l, rfl, hl⟩ := kids_at xs (fun j v hv => h (j + 1) v (by simpa using hv))
    refine ⟨x :: l, rfl, fun y hy => ?_⟩
    rcases List.mem_cons.1 hy with rfl | hy
    · exact hx
    · exact hl y hy
theorem fx_sr {v : World} {T : TypeId} {x : Value} {n : Nat} {S : Nat → Prop} {f : Nat → ByteArray} (h : Fx v T (fun j u => u = .string (f j)) x n) (hS : ∀ y, x.ownBlock = some y → S y) : Sr v S x ((List.range n).map f) := by
  obtain ⟨xs, h1, h2, h3⟩ := h.rw
  have e := strs_at xs f h2
  rw [h1] at e
  rw [e] at h3
  exact (show Rw v S x _ _ by simpa using h3.mono (fun b hb _ => hS b hb))
theorem fx_ir {v : World} {T : TypeId} {x : Value} {n : Nat} {S : Nat → Prop} (h : Fx v T isKid x n) (hS : ∀ y, x.ownBlock = some y → S y) : ∃ l : List Int, l.length = n ∧ (∀ k ∈ l, 2 ≤ k ∧ k < 400) ∧ Ir v S x l := by
  obtain ⟨xs, h1, h2, h3⟩ := h.rw
  obtain ⟨l, rfl, hl⟩ := kids_at xs h2
  simp at h1
  exact ⟨l, h1, hl, by subst h1; exact h3.mono (fun b hb _ => hS b hb)⟩
theorem DPx.done {w v : World} {g : Nat} {ka : Option Addr} {kn kc : Nat} {va : Option Addr} {vn vc : Nat} {ia : Option Addr} {jn ic : Nat} {kf vf : Nat → ByteArray} (h : DPx w v g (.slice ka kn kc) (.slice va vn vc) (.slice ia jn ic) kn vn jn (fun j u => u = .string (kf j)) (fun j u => u = .string (vf j))) (hp : ∀ l : List Int, l.length = jn → (∀ k ∈ l, 2 ≤ k ∧ k < 400) → pgOk ⟨(List.range kn).map kf, (List.range vn).map vf, l⟩ = true) (x y z : Value) :
    DpX w g (.returned (.agg #[.slice ka kn kc, .slice va vn vc, .slice ia jn ic])) (((v.setCell ⟨w.heap.size, 0, none⟩ x).setCell ⟨w.heap.size, 1, none⟩ y).setCell ⟨w.heap.size, 2, none⟩ z) := by
  have hlt := h.lt
  have hs := h.gr.size
  have ho : Only (fun y => y = w.heap.size) v (((v.setCell ⟨w.heap.size, 0, none⟩ x).setCell ⟨w.heap.size, 1, none⟩ y).setCell ⟨w.heap.size, 2, none⟩ z) :=
    ((only_set (R := fun y => y = w.heap.size) rfl _).trans (only_set (R := fun y => y = w.heap.size) rfl _)).trans (only_set (R := fun y => y = w.heap.size) rfl _)
  obtain ⟨l, hl, hk, hI⟩ := fx_ir (S := fun y => w.heap.size + 1 < y) (h.hi.to ho (fun y e hr => by have := h.lo y (.inr (.inr e)); omega)) (fun y e => h.lo y (.inr (.inr e)))
  refine ⟨ka, kn, kc, va, vn, vc, ia, jn, ic, _, rfl, hp l hl hk, ⟨ho.os.trans h.gr.os, ho.tape.trans h.gr.tape, ho.output.trans h.gr.output, Nat.le_trans hs ho.size, fun k hk1 hne => ?_⟩, ((h.cu.setP _ _ _ hlt).setP _ _ _ hlt).setP _ _ _ hlt, fx_sr (h.hk.to ho (fun y e hr => by have := h.lo y (.inl e); omega)) (fun y e => h.lo y (.inl e)), fx_sr (h.hv.to ho (fun y e hr => by have := h.lo y (.inr (.inl e)); omega)) (fun y e => h.lo y (.inr (.inl e))), hI⟩
  rw [ho.block k (by omega) (by omega)]
  exact h.gr.block k hk1 hne
end Go.Proofs.YtcpdedpgjaimkaaDoor
/-
  The keys that the laws draw: some strings that are not too long.
-/
namespace Go.Proofs.YtcpdedpgjaimkaaDoor
open Go.RowKit
set_option maxHeartbeats 8000000 in
theorem key_any (g : Nat) (w : World) (h : Cu w g) : Calls Tryd.prog 60 #[.pointer (some ⟨g, 0, none⟩)] w fun e w' => (∃ s : ByteArray, e = .returned (.string s) ∧ s.size ≤ 17) ∧ w.grownBy w' (some g) ∧ Cu w' g := by
  have HC := hid h
  clear h
  go_enter Tryd.func60, Tryd.ntmps60
  go_wp2_with fail
  refine (below_any g 20 w HC.out (by omega) (by omega)).mono ?_
  rintro e w1 ⟨⟨x, rfl, hx0, hx1⟩, hg1, hc1⟩
  have HG1 := hid hg1
  have HC1 := hid hc1
  clear hg1 hc1 HC
  have hx : x = 0 ∨ x = 1 ∨ x = 2 ∨ x = 3 ∨ x = 4 ∨ x = 5 ∨ x = 6 ∨ x = 7 ∨ x = 8 ∨ x = 9 ∨ x = 10 ∨ x = 11 ∨ x = 12 ∨ x = 13 ∨ x = 14 ∨ x = 15 ∨ x = 16 ∨ x = 17 ∨ 18 ≤ x := by omega
  rcases hx with rfl | rfl | rfl | rfl | rfl | rfl | rfl | rfl | rfl | rfl | rfl | rfl | rfl | rfl | rfl | rfl | rfl | rfl | hx
  all_goals try clear hx0 hx1
  case inr.inr.inr.inr.inr.inr.inr.inr.inr.inr.inr.inr.inr.inr.inr.inr.inr.inr =>
    go_wp2_with fail
    refine (below_any g 30 w1 HC1.out (by omega) (by omega)).mono ?_
    rintro e w2 ⟨⟨y, rfl, hy0, hy1⟩, hg2, hc2⟩
    have HG2 := hid (grownBy_trans HG1.out hg2)
    have HC2 := hid hc2
    clear hg2 hc2 HG1 HC1
    go_wp2_with fail
    refine (numText_any y w2 hy0 (by omega)).mono ?_
    rintro e w3 ⟨⟨s, rfl, hs⟩, hb3⟩
    have HG3 := hid (grownBy_trans HG2.out (grown_of_below hb3 _))
    have HC3 := hid (HC2.out.below hb3)
    clear hb3 HG2 HC2
    have hcat : (⟨#[107]⟩ : ByteArray).size = 1 := rfl
    go_wp2
    go_ret
    exact ⟨⟨_, rfl, by simp [ByteArray.size_append]; omega⟩, HG3.out, HC3.out⟩
  case inr.inr.inr.inr.inr.inr.inr.inr.inr.inr.inr.inr.inr.inr.inr.inr.inl =>
    go_wp2
    go_ret
    exact ⟨⟨_, rfl, by decide⟩, HG1.out, HC1.out⟩
  case inr.inr.inr.inr.inr.inr.inr.inr.inr.inr.inr.inr.inr.inr.inr.inr.inr.inl =>
    go_wp2
    go_ret
    exact ⟨⟨_, rfl, by decide⟩, HG1.out, HC1.out⟩
  all_goals (go_wp2; go_ret; exact ⟨⟨_, rfl, by decide⟩, grownBy_trans HG1.out (grownBy_alloc _ _ _), HC1.out.alloc _⟩)
end Go.Proofs.YtcpdedpgjaimkaaDoor
/-
  Keys and ranges, the specification's side, and the law's helpers over ranges.
-/
namespace Go.Proofs.YtcpdedpgjaimkaaDoor
open Go.RowKit

end Go.Proofs.YtcpdedpgjaimkaaDoor
/-
  Points, ranges in common, ranges within ranges: what the program's functions and the specification's answer.
-/
namespace Go.Proofs.YtcpdedpgjaimkaaDoor
open Go.RowKit

/-- The lesser of two ends (none: the greatest). -/
def lsr (a b : ByteArray) : ByteArray := if a.toList = [] then b else if ahd a b then a else b
/-- The greater of two beginnings. -/
def mxl (a b : ByteArray) : ByteArray := if Op.bytesLess a.toList b.toList then b else a
def bth (la ha lb hb : ByteArray) : Bool := rOk la ha && rOk lb hb && rOk (mxl la lb) (lsr ha hb)
def bLo (la ha lb hb : ByteArray) : ByteArray := if bth la ha lb hb then mxl la lb else ⟨#[]⟩
def bHi (la ha lb hb : ByteArray) : ByteArray := if bth la ha lb hb then lsr ha hb else ⟨#[]⟩
theorem run_mxl (ts : Array TypeId) (t : TypeId) (a b : ByteArray) (w : World) : (Builtin.max_ ts t #[.string a, .string b]).run Tryd.prog w = .ok (.string (mxl a b)) w := by
  have e : (Builtin.max_ ts t #[.string a, .string b]).run Tryd.prog w = .ok (.string (if (!Op.bytesLess a.toList b.toList) = true then a else b)) w := by
    simp [Builtin.max_, Builtin.max2, Op.stringOp, asBool]
  rw [e]
  unfold mxl
  cases Op.bytesLess a.toList b.toList <;> rfl
theorem keep4 {w w1 : World} {g : Nat} {x y : Value} (h : Below w.heap.size w w1) (q0 : w.cell? ⟨g, 0, none⟩ = some x) (q1 : w.cell? ⟨g, 1, none⟩ = some y) (q2 : w.frozen? ⟨g, 0, none⟩ = false) (q3 : w.frozen? ⟨g, 1, none⟩ = false) :
    w1.cell? ⟨g, 0, none⟩ = some x ∧ w1.cell? ⟨g, 1, none⟩ = some y ∧ w1.frozen? ⟨g, 0, none⟩ = false ∧ w1.frozen? ⟨g, 1, none⟩ = false := by
  have hl : g < w.heap.size := block_lt q0
  exact ⟨by rw [h.cell (p := ⟨g, 0, none⟩) hl]; exact q0, by rw [h.cell (p := ⟨g, 1, none⟩) hl]; exact q1, by rw [h.frozen (p := ⟨g, 0, none⟩) hl]; exact q2, by rw [h.frozen (p := ⟨g, 1, none⟩) hl]; exact q3⟩
theorem keep4_then {C : Prop} {w w1 : World} {g : Nat} {x y : Value} (h : Below w.heap.size w w1) (q0 : w.cell? ⟨g, 0, none⟩ = some x) (q1 : w.cell? ⟨g, 1, none⟩ = some y) (q2 : w.frozen? ⟨g, 0, none⟩ = false) (q3 : w.frozen? ⟨g, 1, none⟩ = false)
    (k : w1.cell? ⟨g, 0, none⟩ = some x → w1.cell? ⟨g, 1, none⟩ = some y → w1.frozen? ⟨g, 0, none⟩ = false → w1.frozen? ⟨g, 1, none⟩ = false → C) : C :=
  k (keep4 h q0 q1 q2 q3).1 (keep4 h q0 q1 q2 q3).2.1 (keep4 h q0 q1 q2 q3).2.2.1 (keep4 h q0 q1 q2 q3).2.2.2
theorem cell_kept {w w1 : World} {g o : Nat} {x : Value} (h : w.cell? ⟨g, o, none⟩ = some x) (hb : Below w.heap.size w w1) : w1.cell? ⟨g, o, none⟩ = some x := (hb.cell (p := ⟨g, o, none⟩) (block_lt h)).trans h
theorem below_alloc (w : World) (o : Obj) : Below w.heap.size w (w.alloc o) := (Below.refl _ _).alloc (Nat.le_refl _) o
end Go.Proofs.YtcpdedpgjaimkaaDoor
/-
  The range that two ranges have in common: the specification's function.
-/
namespace Go.Proofs.YtcpdedpgjaimkaaDoor
open Go.RowKit

end Go.Proofs.YtcpdedpgjaimkaaDoor
/-
  The ranges that the laws draw: some ranges.
-/
namespace Go.Proofs.YtcpdedpgjaimkaaDoor
open Go.RowKit
theorem grown_new {w v : World} {row : Option Nat} (h : w.grownBy v row) (b o : Nat) (x : Value) (hb : w.heap.size ≤ b) : w.grownBy (v.setCell ⟨b, o, none⟩ x) row :=
  ⟨h.os, h.tape, h.output, by simp [World.setCell]; exact h.size, fun k hk hne => by rw [Below.heap_setCell _ _ _ _ (fun e => by simp at e; omega)]; exact h.block k hk hne⟩
theorem Cu.set {v : World} {g : Nat} (h : Cu v g) (b o : Nat) (x : Value) (hb : g < b) : Cu (v.setCell ⟨b, o, none⟩ x) g :=
  h.kept (grownBy_set (grownBy_same v (some b)) o x) (fun k e => by cases e; exact hb)
theorem grown_below {w v v' : World} {row : Option Nat} (h : w.grownBy v row) (hb : Below v.heap.size v v') : w.grownBy v' row := grownBy_trans h (grown_of_below hb row)
end Go.Proofs.YtcpdedpgjaimkaaDoor
/-
  The ranges that the laws draw, right or not: some ranges.
-/
namespace Go.Proofs.YtcpdedpgjaimkaaDoor
open Go.RowKit
theorem rd_made (w : World) (k : Nat) (hk : k ≤ 8192) : Rd (w.alloc (.cells (madeCells #[.int .u8 0] k) 5)) (some ⟨w.heap.size, 0, none⟩) k k (List.replicate k 0) := by
  refine ⟨by simp, Nat.le_refl _, by omega, by omega, fun i => ?_, fun _ => ⟨w.heap.size, 0, rfl, by simp, fun i hi => ?_⟩⟩
  · by_cases h : i < k
    · simp [h]
    · rw [List.getElem?_eq_none (by simp; omega)]; simp
  · rw [World.cell?_alloc_at (hn := rfl)]
    have h1 : i < (madeCells #[.int .u8 0] k).size := by simp [madeCells]; omega
    rw [show (0 : Nat) + i = i from Nat.zero_add i, Array.getElem?_eq_getElem h1]
    simp [madeCells, Nat.mod_one, hi]
theorem made_any (m : Int) (k : Nat) (hk : m = k) (h : k ≤ 8192) : ∀ w, (Instr.makeSlice 22 (.int .i64 m) (.int .i64 m)).run Tryd.prog w = .ok (.slice (some ⟨w.heap.size, 0, none⟩) k k) (w.alloc (.cells (madeCells #[.int .u8 0] k) 5)) := by
  intro w
  subst hk
  exact run_make_row' (P := Tryd.prog) 22 5 (.int .u8 0) 1 Tryd.underlying22 infoU8 rfl .i64 .i64 k (by omega) (by omega) w
end Go.Proofs.YtcpdedpgjaimkaaDoor
/-
  slices.Clone of pairs; readLeaf.
-/
namespace Go.Proofs.YtcpdedpgjaimkaaDoor
open Go.RowKit

theorem ow_new (w : World) (B : Nat) (hB : B ≤ w.heap.size) : Ow (w.alloc (.cells #[] 91)) B (.slice (some ⟨w.heap.size, 0, none⟩) 0 0) [] :=
  ⟨rfl, .inr ⟨w.heap.size, 0, #[], rfl, hB, heap_alloc_new w _, Nat.le_refl _, by decide, rfl, rfl⟩⟩
theorem own_mono {w : World} {base base' : Nat} {e : TypeId} {size : Nat} {v : Value} {n : Nat} {xs : List Value} (h : w.ownsRow base e size v n xs) (hb : base' ≤ base) : w.ownsRow base' e size v n xs := by
  refine ⟨h.1, ?_⟩
  rcases h.2 with h2 | ⟨g, cap, cur, h3, h4, h5⟩
  · exact .inl h2
  · exact .inr ⟨g, cap, cur, h3, Nat.le_trans hb h4, h5⟩
def leafT (x : NB) (root : Bool) : Option T := if leafOk x root = true then some (.mk x.ps []) else none
end Go.Proofs.YtcpdedpgjaimkaaDoor
/-
  Rows of pointers to limbs that are appended to; what is known of a tree that was read.
-/
namespace Go.Proofs.YtcpdedpgjaimkaaDoor
open Go.RowKit

/-- append(dst, src...), and where the new row lies. -/
theorem ptrs_snoc (A : Nat → Nat) (n b : Nat) : ptrs A n ++ [ptr b] = ptrs (fun i => if i = n then b else A i) (n + 1) := by
  simp only [ptrs, List.range_succ, List.map_append, List.map_cons, List.map_nil, if_true]
  congr 1
  apply List.map_congr_left
  intro i hi
  rw [if_neg (by have := List.mem_range.1 hi; omega)]
theorem tAt_snoc (ts : List T) (t : T) (i : Nat) (h : i < (ts ++ [t]).length) : tAt (ts ++ [t]) i = if i = ts.length then t else tAt ts i := by
  by_cases e : i = ts.length
  · subst e; simp [tAt]
  · simp at h
    rw [if_neg e]
    simp [tAt, List.getElem?_append_left (show i < ts.length by omega)]
theorem full_ne : ∀ (t : T) (r : Bool), t.full r = true → t.ne
  | .mk ps [], r, h => by
    have := full_lf h
    show ps ≠ []
    rintro rfl
    simp at this
  | .mk ps (k :: ks), r, h => by
    have := full_br h (by simp)
    exact full_ne k false (this.2.2.2 k (by simp))
/-- What the methods ask of a tree. -/
structure Rdy (t : T) : Prop where
  ne : t.ne
  bare : t.bare = false
  few : t.ps.length + t.ks.length ≤ 1048576
  lv : t.lv ≤ 1048576
theorem full_few {t : T} {r : Bool} (h : t.full r = true) : t.ps.length + t.ks.length ≤ 8 ∧ t.bare = false := by
  obtain ⟨ps, ks⟩ := t
  by_cases hk : ks = []
  · subst hk
    have := full_lf h
    simp [T.ps, T.ks, T.bare]
    refine ⟨by omega, ?_⟩
    rintro rfl
    simp at this
  · have := full_br h hk
    simp only [T.ps, T.ks, T.bare, this.2.2.1, List.length_nil, decide_eq_false_iff_not]
    omega
theorem rdy_of {h : Nat} {t : T} {r : Bool} (e : Ev h t) (hu : t.full r = true) (hs : t.size ≤ 1048576) : Rdy t := by
  have h1 := full_few hu
  have h2 := ev_le_size e hu
  have h3 := ev_lv h t e
  exact ⟨full_ne t r hu, h1.2, by omega, by omega⟩
theorem pre_len {ns l : List NB} {a : Nat} (h : Pre ns a l) (hl : 0 < l.length) : a + l.length ≤ ns.length := by
  have := h (l.length - 1) (by omega)
  rw [List.getElem?_eq_getElem (by omega : l.length - 1 < l.length)] at this
  have := (List.getElem?_eq_some_iff.1 this).1
  omega
theorem rdI_rdy {ns : List NB} {f : Nat} {pl : Int} {nx n1 : Nat} {t : T} (h : rdI ns f pl nx = some (t, n1)) (hl : ns.length ≤ 1048576) : Rdy t ∧ n1 ≤ ns.length ∧ nx < n1 := by
  obtain ⟨_, h2, h3, ⟨e, h4⟩, h5, rfl⟩ := rdI_sound ns f pl nx t n1 h
  have h6 := pre_len h5 (by rw [lay_length]; exact T.size_pos t)
  rw [lay_length] at h6
  have := T.size_pos t
  exact ⟨rdy_of h4 h3 (by omega), by omega, by omega⟩
def brT (ns : List NB) (f : Nat) (x : NB) (nx : Nat) : Option (T × Nat) := if brOk x = true then (match rdIL (rdI ns f) x.keys [] x.kids nx with
  | none => none
  | some (ts, n) => some (.mk [] ts, n)) else none
end Go.Proofs.YtcpdedpgjaimkaaDoor
/-
  copy of elements of more than one cell into a row that is known whole. Nothing here speaks of the program.
-/
namespace Go.Proofs.YtcpdedpgjaimkaaDoor
open Go.RowKit
theorem run_copy_rowK {P : Program} (w : World) (dT sT ty elem : TypeId) (g o dLen dCap : Nat) (a : Addr) (sLen sCap size : Nat) (cur : List Value) (t : TypeId) (cs : List Value)
    (hu : P.underlying dT = some (.slice elem)) (hs : (P.info? elem).map (·.size) = some size)
    (hg : Bk w g t cur) (hn : cs.length = Nat.min sLen dLen * size)
    (hsrc : ∀ j v, cs[j]? = some v → w.cell? (a.add j) = some v) (hfit : o + cs.length ≤ cur.length) (h1 : ∀ v ∈ cs, v.oneCell' = true) :
    (Builtin.copy_ #[dT, sT] ty #[.slice (some ⟨g, o, none⟩) dLen dCap, .slice (some a) sLen sCap]).run P w =
      .ok (goInt (Nat.min sLen dLen)) (w.setRow g (cur.take o ++ cs ++ cur.drop (o + cs.length)).toArray) := by
  have hl := run_loadCells_list (P := P) w a cs hsrc
  have hst := run_storeCells_at P g o t cs 0 cur.toArray w hg (by simpa using hfit) h1
  cases hq : P.info? elem with
  | none => simp [hq] at hs
  | some i =>
    have hi : i.size = size := by simpa [hq] using hs
    simp only [Nat.add_zero] at hst
    simp [Builtin.copy_, run_underlying hu, Builtin.lenOf, Builtin.firstCells, sizeOf, typeInfo, hq, hi, ← hn, hl, hst]
theorem Bk.setRow {w : World} {g : Nat} {T : TypeId} {xs : List Value} (h : Bk w g T xs) (ys : List Value) : Bk (w.setRow g ys.toArray) g T ys := setRow_heap w g _ _ T _ h
theorem only_setRow {R : Nat → Prop} {w : World} {g : Nat} (h : R g) (cs : Array Value) : Only R w (w.setRow g cs) := by
  refine ⟨rfl, rfl, rfl, by simp [World.setRow], fun b _ hn => ?_⟩
  have : b ≠ g := fun e => hn (e ▸ h)
  simp [World.setRow, Array.getElem?_modify, Ne.symm this]
theorem wpList_copy_run {P : Program} (w : World) {ops : Array Oper} {rest : List Oper} {o : Oper} {a : Act} {Q : Exit → Act → World → Prop} (hgd : o.guard = none) (d s : Operand) (t t' : TypeId)
    (ho : o.op = .call { callee := .builtin .copy, args := #[d, s], argTypes := #[t, t'] }) (v u : Value) (hd : a.eval d = v) (hs : a.eval s = u) {v' : Value} {w' : World}
    (hr : (Builtin.copy_ #[t, t'] o.type #[v, u]).run P w = .ok v' w') (h : wpList P ops Q rest (a.put o.dst v') w') : wpList P ops Q (o :: rest) a w := by
  refine wpList_plain hgd fun K hK => ?_
  unfold Oper.wp execOp
  simp only [ho, resolve, invoke, builtin, Sem.run_bind, Sem.run_pure, Result.andThen_ok, List.map_toArray, List.map_cons, List.map_nil, hd, hs, hr]
  exact hK _ _ h
theorem step_copy_run {P : Program} {ops : Array Oper} {o : Oper} {a : Act} {w : World} {K : Act → World → Prop} {Q : Exit → Act → World → Prop} {E : Prop}
    (hg : o.guard = none) (d x : Operand) (dT sT : TypeId) (hop : o.op = Op.call { callee := Callee.builtin Builtin.copy, args := #[d, x], argTypes := #[dT, sT] })
    (v u : Value) (hd : a.eval d = v) (hx : a.eval x = u) {v' : Value} {w' : World} (hr : (Builtin.copy_ #[dT, sT] o.type #[v, u]).run P w = .ok v' w') (hK : K (a.put o.dst v') w') :
    if Region.wanted o (yielded ops a.tmps) = true then Oper.wp P o a w K Q else E := by
  have hw : Region.wanted o (yielded ops a.tmps) = true := by simp [Region.wanted, hg]
  rw [if_pos hw]
  unfold Oper.wp
  simp [execOp, hop, resolve, invoke, builtin, hd, hx, hr, Result.andThen]
  exact hK
theorem drop_at {A Z : List Value} {m : Nat} (h : A.length = m) (k : Nat) : (A ++ Z).drop (m + k) = Z.drop k := by rw [← h, List.drop_length_add_append]
theorem take_at {A Z : List Value} {m : Nat} (h : A.length = m) : (A ++ Z).take m = A := by rw [← h, List.take_left']; rfl
theorem bk_take {w : World} {g : Nat} {T : TypeId} {cl : List Value} (h : Bk w g T cl) {m j : Nat} {u : Value} (hu : (cl.take m)[j]? = some u) : w.cell? ⟨g, j, none⟩ = some u := by
  refine h.cell ?_
  rw [List.getElem?_take] at hu
  split at hu
  · exact hu
  · cases hu
/-- What a row holds behind an insertion in place. -/
theorem ins_list (cur ys : List Value) (i n s : Nat) (hn : (n + 1) * s ≤ cur.length) (hi : i ≤ n) (hy : ys.length = s) :
    let c1 := cur.take ((i + 1) * s) ++ (cur.take (n * s)).drop (i * s) ++ cur.drop ((i + 1) * s + ((cur.take (n * s)).drop (i * s)).length)
    (c1.take (i * s) ++ ys ++ c1.drop (i * s + ys.length)).take ((n + 1) * s) = (cur.take (n * s)).take (i * s) ++ ys ++ (cur.take (n * s)).drop (i * s) := by
  have e1 : (i + 1) * s = i * s + s := by rw [Nat.add_mul, Nat.one_mul]
  have e2 : (n + 1) * s = n * s + s := by rw [Nat.add_mul, Nat.one_mul]
  have e3 : i * s ≤ n * s := Nat.mul_le_mul_right s hi
  have hl : ((cur.take (n * s)).drop (i * s)).length = n * s - i * s := by rw [List.length_drop, List.length_take]; omega
  intro c1
  have hA : (cur.take ((i + 1) * s)).length = i * s + s := by rw [List.length_take]; omega
  have hc1t : c1.take (i * s) = cur.take (i * s) := by
    show (cur.take ((i + 1) * s) ++ _ ++ _).take (i * s) = _
    rw [List.append_assoc, List.take_append_of_le_length (by omega), List.take_take, Nat.min_eq_left (by omega)]
  have hc1d : c1.drop (i * s + ys.length) = (cur.take (n * s)).drop (i * s) ++ cur.drop ((i + 1) * s + ((cur.take (n * s)).drop (i * s)).length) := by
    show (cur.take ((i + 1) * s) ++ _ ++ _).drop (i * s + ys.length) = _
    rw [List.append_assoc, List.drop_append_of_le_length (by omega), List.drop_eq_nil_of_le (by omega), List.nil_append]
  rw [hc1t, hc1d, List.take_take, Nat.min_eq_left e3]
  rw [← List.append_assoc]
  rw [List.take_append_of_le_length (by simp only [List.length_append, List.length_take, hl]; omega)]
  rw [List.take_of_length_le (by simp only [List.length_append, List.length_take, hl]; omega)]
end Go.Proofs.YtcpdedpgjaimkaaDoor
/-
  A sub of the specification: a flag and two slices, its pairs and its kids.
-/
namespace Go.Proofs.YtcpdedpgjaimkaaDoor
open Go.RowKit

def mkV (L : Nat → Bool) (P K : Nat → Value) (n : Nat) : List V3 := (List.range n).map fun i => (.bool (L i), P i, K i)
theorem mkV_length (L : Nat → Bool) (P K : Nat → Value) (n : Nat) : (mkV L P K n).length = n := by simp [mkV]
theorem mkV_at (L : Nat → Bool) (P K : Nat → Value) (n i : Nat) (h : i < n) : vAt (mkV L P K n) i = (.bool (L i), P i, K i) := by simp [mkV, vAt, h]
/-- The three values are in w the sub t; what is read lies in blocks of S. -/
inductive Sub (w : World) (S : Nat → Prop) : Bool → Value → Value → T → Prop
  | mk (lf : Bool) (pv kv : Value) (ps : List PB) (ks : List T) (L : Nat → Bool) (P K : Nat → Value) (hlf : lf = decide (ks.length = 0)) (hP : Pr w S pv ps)
      (hK : Rw w S kv ks.length (ncs (mkV L P K ks.length))) (hk : ∀ i, i < ks.length → Sub w S (L i) (P i) (K i) (tAt ks i)) : Sub w S lf pv kv (.mk ps ks)
theorem Sub.to {w w' : World} {S R : Nat → Prop} (ho : Only R w w') (hR : ∀ x, S x → x < w.heap.size → ¬ R x) {lf : Bool} {pv kv : Value} {t : T} (h : Sub w S lf pv kv t) : Sub w' S lf pv kv t := by
  induction h with
  | mk lf pv kv ps ks L P K hlf hP hK hk ih => exact .mk lf pv kv ps ks L P K hlf (hP.to ho hR) (hK.to ho hR) ih
theorem Sub.mono {w : World} {S R : Nat → Prop} (hR : ∀ x, S x → x < w.heap.size → R x) {lf : Bool} {pv kv : Value} {t : T} (h : Sub w S lf pv kv t) : Sub w R lf pv kv t := by
  induction h with
  | mk lf pv kv ps ks L P K hlf hP hK hk ih => exact .mk lf pv kv ps ks L P K hlf (Rw.mono hP hR) (hK.mono hR) ih
theorem Sub.kept {w w' : World} {S : Nat → Prop} {lf : Bool} {pv kv : Value} {t : T} (h : Sub w S lf pv kv t) (hb : Below w.heap.size w w') : Sub w' S lf pv kv t := h.to (only_of_below hb (fun _ => False)) (fun _ _ _ h => h)
theorem Sub.shape {w : World} {S : Nat → Prop} {lf : Bool} {pv kv : Value} {t : T} (h : Sub w S lf pv kv t) : ∃ ap np cp ak nk ck, pv = .slice ap np cp ∧ kv = .slice ak nk ck ∧ Hid (np = t.ps.length) ∧ Hid (nk = t.ks.length) ∧ np ≤ 9223372036854775807 ∧ nk ≤ 9223372036854775807 ∧ lf = decide (nk = 0) ∧ Pr w S (.slice ap np cp) t.ps := by
  cases h with
  | mk lf pv kv ps ks L P K hlf hP hK hk =>
    obtain ⟨ap, cp, rfl, h1, h2⟩ := hP.shape
    obtain ⟨ak, ck, rfl, h3, h4⟩ := hK.shape
    exact ⟨ap, _, cp, ak, _, ck, rfl, rfl, rfl, rfl, by omega, by omega, hlf, hP⟩
theorem Sub.kids {w : World} {S : Nat → Prop} {lf : Bool} {pv : Value} {ak : Option Addr} {nk ck : Nat} {t : T} (h : Sub w S lf pv (.slice ak nk ck) t) (hp : 0 < nk) : ∃ g off, ak = some ⟨g, off, none⟩ ∧ S g ∧ g < w.heap.size ∧ ∀ i, i < nk → ∃ l ap np cp ak' nk' ck',
    w.cell? ⟨g, off + i * 3, none⟩ = some (.bool l) ∧ w.cell? ⟨g, off + i * 3 + 1, none⟩ = some (.slice ap np cp) ∧ w.cell? ⟨g, off + i * 3 + 2, none⟩ = some (.slice ak' nk' ck') ∧ Sub w S l (.slice ap np cp) (.slice ak' nk' ck') (tAt t.ks i) := by
  cases h with
  | mk lf pv kv ps ks L P K hlf hP hK hk =>
    have hn := (Rw.len hK).1
    obtain ⟨g, off, h1, h2, h3, h4⟩ := hK.at hp
    refine ⟨g, off, h1, h2, h3, fun i hi => ?_⟩
    have hik : i < ks.length := by omega
    obtain ⟨c0, c1, c2⟩ := ncs_at (mkV L P K ks.length) i (by rw [mkV_length]; exact hik)
    rw [mkV_at _ _ _ _ _ hik] at c0 c1 c2
    have d0 := h4 _ _ c0
    have d1 := h4 _ _ c1
    have d2 := h4 _ _ c2
    have hs := hk i hik
    obtain ⟨ap, np, cp, ak', nk', ck', e1, e2, _⟩ := hs.shape
    simp only at d1 d2
    rw [e1] at d1 hs
    rw [e2] at d2 hs
    exact ⟨L i, ap, np, cp, ak', nk', ck', d0, d1, d2, hs⟩
theorem infoSub : (Tryd.prog.info? 98).map (fun i => (i.zero, i.size, i.bytes)) = some (some (.agg #[.bool false, .slice none 0 0, .slice none 0 0]), 3, 56) := by kernel_rfl
set_option maxHeartbeats 2000000 in
theorem specLeast_any (t : T) : ∀ (S : Nat → Prop) (lf : Bool) (ap ak : Option Addr) (np cp nk ck : Nat) (w : World), Sub w S lf (.slice ap np cp) (.slice ak nk ck) t →
    Calls Tryd.prog 73 #[.agg #[.bool lf, .slice ap np cp, .slice ak nk ck]] w fun e w' => e = .returned (.string t.least) ∧ Below w.heap.size w w' := by
  induction t using T.ind
  rename_i ps ks ih
  intro S lf ap ak np cp nk ck w h
  obtain ⟨ap', np', cp', ak', nk', ck', e1, e2, HNP, HNK, b1, b2, hlf, hP⟩ := h.shape
  cases e1
  cases e2
  have H0 := hid h
  have HP := hid hP
  have HIH := hid ih
  clear h ih hP
  have HB0 := hid (below_new (o := .cells #[.bool lf, .slice ap np cp, .slice ak nk ck] 98) (w := w) (Below.refl _ _))
  by_cases hk : nk = 0
  · have hlf' : lf = true := by rw [hlf, hk]; rfl
    have hks : ks = [] := List.eq_nil_of_length_eq_zero (by have := HNK.out; simp only [T.ks] at this; omega)
    clear H0 hlf
    subst hlf' hks hk
    by_cases hp : np = 0
    · have HE : Hid ((T.mk ps []).least = ⟨#[]⟩) := by
        have : ps = [] := List.eq_nil_of_length_eq_zero (by have := HNP.out; simp only [T.ps] at this; omega)
        subst this; rfl
      clear HP
      subst hp
      go_enter Tryd.func73, Tryd.ntmps73
      go_wp2
      go_ret
      exact ⟨by rw [HE.out]; rfl, HB0.out⟩
    · obtain ⟨b, off, hap, _, hbw, hcell⟩ := HP.out.at (by omega)
      subst hap
      have hc := (hcell 0 (by omega)).1
      have HE : Hid ((T.mk ps []).least = (pAtB ps 0).1) := by
        show (ps.head?.map (·.1)).getD ⟨#[]⟩ = _
        cases ps <;> rfl
      simp only [T.ps, Nat.zero_mul, Nat.add_zero] at hc
      generalize (pAtB ps 0).1 = k0 at *
      have hp' : (0 : Int) < (np : Int) := by omega
      clear hcell
      go_enter Tryd.func73, Tryd.ntmps73
      go_wp2
      go_ret
      exact ⟨by rw [HE.out]; rfl, HB0.out⟩
  · have hlf' : lf = false := by rw [hlf]; simp [hk]
    subst hlf'
    have hk' : (0 : Int) < (nk : Int) := by omega
    obtain ⟨g, off, hak, _, hgw, hkid⟩ := (H0.out.kept HB0.out).kids (by omega)
    subst hak
    obtain ⟨l1, ap1, np1, cp1, ak1, nk1, ck1, c0, c1, c2, hs⟩ := hkid 0 (by omega)
    simp only [Nat.zero_mul, Nat.add_zero, T.ks] at c0 c1 c2 hs
    have HS := hid hs
    have hne : ks ≠ [] := by rintro rfl; have := HNK.out; simp [T.ks] at this; omega
    have HM : Hid (tAt ks 0 ∈ ks ∧ (T.mk ps ks).least = (tAt ks 0).least) := by
      cases ks with
      | nil => exact absurd rfl hne
      | cons k ks => exact ⟨by simp [tAt], rfl⟩
    clear hkid hs hne hlf hk
    go_enter Tryd.func73, Tryd.ntmps73
    go_wp2_with fail
    refine (HIH.out (tAt ks 0) HM.out.1 S l1 ap1 ak1 np1 cp1 nk1 ck1 _ HS.out).mono ?_
    rintro e w1 ⟨rfl, hb1⟩
    have HB1 := hid (HB0.out.trans (hb1.mono HB0.out.size))
    clear hb1
    go_wp2
    go_ret
    exact ⟨by rw [HM.out.2]; rfl, HB1.out⟩
end Go.Proofs.YtcpdedpgjaimkaaDoor
/-
  l03Deep, l03Full, l03Pairs of the specification.
-/
namespace Go.Proofs.YtcpdedpgjaimkaaDoor
open Go.RowKit
mutual
def T.ht : T → Nat | .mk _ ks => 1 + htL ks
def htL : List T → Nat | [] => 0 | k :: ks => max k.ht (htL ks)
end
theorem htL_mem (ks : List T) : ∀ k ∈ ks, k.ht ≤ htL ks := by
  induction ks with
  | nil => intro k h; cases h
  | cons x ks ih =>
    intro k h
    simp only [htL]
    rcases List.mem_cons.1 h with rfl | h
    · omega
    · have := ih k h; omega
theorem ev_ht : ∀ (h : Nat) (t : T), Ev h t → h ≤ t.ht
  | 0, _, e => e.elim
  | h + 1, .mk ps ks, e => by
    rcases e with ⟨_, rfl⟩ | ⟨e1, e2⟩
    · simp [T.ht]
    · obtain ⟨k, hk⟩ := List.exists_mem_of_ne_nil ks e1
      have h1 := ev_ht h k (e2 k hk)
      have h2 := htL_mem ks k hk
      simp only [T.ht]
      omega
theorem dp_bound (t : T) : -1 ≤ t.dp ∧ t.dp ≤ t.ht := by
  have hlo : -1 ≤ t.dp := by
    obtain ⟨ps, ks⟩ := t
    by_cases hk : ks = []
    · subst hk; simp [T.dp]
    · have e : (T.mk ps ks).dp = dpL true 0 ks := by simp [T.dp, hk]
      rw [e]
      rcases dpL_neg_or ks true 0 with h | ⟨h, _⟩
      · omega
      · obtain ⟨k, hk'⟩ := List.exists_mem_of_ne_nil ks hk
        have := h k hk'
        omega
  refine ⟨hlo, ?_⟩
  by_cases h0 : 0 ≤ t.dp
  · have := ev_ht _ t (dp_ev t h0)
    omega
  · omega
theorem tAt_mem {ks : List T} {k : Nat} (h : k < ks.length) : tAt ks k ∈ ks := by
  simp only [tAt, List.getElem?_eq_getElem h, Option.getD_some]
  exact List.getElem_mem h
theorem drop_tAt {ks : List T} {k : Nat} (h : k < ks.length) : ks.drop k = tAt ks k :: ks.drop (k + 1) := by
  rw [List.drop_eq_getElem_cons h]
  simp [tAt, h]
set_option maxHeartbeats 4000000 in
theorem specDeep_any (t : T) : ∀ (S : Nat → Prop) (lf : Bool) (ap ak : Option Addr) (np cp nk ck : Nat) (w : World), Sub w S lf (.slice ap np cp) (.slice ak nk ck) t → t.ht ≤ 1048576 →
    Calls Tryd.prog 64 #[.agg #[.bool lf, .slice ap np cp, .slice ak nk ck]] w fun e w' => e = .returned (.int .i64 t.dp) ∧ Below w.heap.size w w' := by
  induction t using T.ind
  rename_i ps ks ih
  intro S lf ap ak np cp nk ck w h hht
  obtain ⟨ap', np', cp', ak', nk', ck', e1, e2, HNP, HNK, b1, b2, hlf, hP⟩ := h.shape
  cases e1
  cases e2
  have H0 := hid h
  have HIH := hid ih
  have HHT := hid hht
  clear h ih hP hht
  have HB0 := hid (below_new (o := .cells #[.bool lf, .slice ap np cp, .slice ak nk ck] 98) (w := w) (Below.refl _ _))
  have KP := hid (Bk.new w 98 [.bool lf, .slice ap np cp, .slice ak nk ck])
  simp only [T.ks] at HNK
  by_cases hk : nk = 0
  · have hlf' : lf = true := by rw [hlf, hk]; rfl
    have hks : ks = [] := List.eq_nil_of_length_eq_zero (by have := HNK.out; omega)
    have HE : Hid ((T.mk ps ks).dp = 1) := by show _ = _; subst hks; simp [T.dp]
    clear H0 hlf hks
    subst hlf' hk
    go_enter Tryd.func64, Tryd.ntmps64
    go_wp2
    go_ret
    exact ⟨by rw [HE.out]; rfl, HB0.out⟩
  · have hlf' : lf = false := by rw [hlf]; simp [hk]
    subst hlf'
    have HE : Hid ((T.mk ps ks).dp = dpL true 0 ks) := by
      show _ = _
      have : ks ≠ [] := by rintro rfl; have := HNK.out; simp at this; omega
      simp [T.dp, this]
    clear hlf
    go_enter Tryd.func64, Tryd.ntmps64
    go_wp2_with fail
    go_loopw [3, 11] (fun d i wr => ∃ (k : Nat) (z : Int), k ≤ nk ∧ i = .int .i64 k ∧ d = .int .i64 z ∧ Hid (dpL (decide (k = 0)) z (ks.drop k) = dpL true 0 ks) ∧ Hid (Bk wr w.heap.size 98 [.bool false, .slice ap np cp, .slice ak nk ck]) ∧ Hid (Below w.heap.size w wr)) (fun _ i _ => nk - (intOf i).toNat)
    case atStart => exact ⟨0, 0, Nat.zero_le _, rfl, rfl, rfl, KP.out, HB0.out⟩
    case round =>
      obtain ⟨k, z, hkn, rfl, rfl, HD, HK, HB⟩ := hrel
      by_cases hlt : k < nk
      · have hlt' : (k : Int) < (nk : Int) := by omega
        have hks : k < ks.length := by rw [← HNK.out]; exact hlt
        obtain ⟨g, off, hak, _, hgw, hkid⟩ := (H0.out.kept HB.out).kids (by omega)
        subst hak
        obtain ⟨l1, ap1, np1, cp1, ak1, nk1, ck1, c0, c1, c2, hs⟩ := hkid k hlt
        simp only [T.ks] at hs
        have HS := hid hs
        have p2 := HK.out.cell (j := 2) rfl
        clear hkid hs hgw
        have HHK : Hid ((tAt ks k).ht ≤ 1048576) := by
          show _ ≤ _
          have h1 := htL_mem ks _ (tAt_mem hks)
          have h2 := HHT.out
          simp only [T.ht] at h2
          omega
        have HDD : Hid (dpL (decide (k = 0)) z (ks.drop k) = if (tAt ks k).dp < 0 ∨ (decide (k = 0) = false ∧ (tAt ks k).dp + 1 ≠ z) then -1 else dpL false ((tAt ks k).dp + 1) (ks.drop (k + 1))) := by
          show _ = _
          rw [drop_tAt hks, dpL]
        go_wp2_with fail
        refine (HIH.out (tAt ks k) (tAt_mem hks) S l1 ap1 ak1 np1 cp1 nk1 ck1 wr HS.out HHK.out).mono ?_
        rintro e w1 ⟨rfl, hb1⟩
        have HB1 := hid (HB.out.trans (hb1.mono HB.out.size))
        have HK1 := hid (HK.out.below hb1)
        have hdb := dp_bound (tAt ks k)
        have hdb2 : (tAt ks k).dp ≤ 1048576 := by have := HHK.out; omega
        generalize (tAt ks k).dp = y at *
        clear hb1 HK HB c0 c1 c2 p2
        by_cases hy : y < 0
        · have HR : Hid ((T.mk ps ks).dp = -1) := by show _ = _; rw [HE.out, ← HD.out, HDD.out, if_pos (.inl hy)]
          clear hdb
          go_wp2
          go_ret
          exact ⟨by rw [HR.out]; rfl, HB1.out⟩
        · clear hdb
          cases k with
          | zero =>
            have HD2 : Hid (dpL (decide (0 + 1 = 0)) (y + 1) (ks.drop (0 + 1)) = dpL true 0 ks) := by
              show _ = _
              rw [← HD.out, HDD.out, if_neg]
              · rfl
              · rintro (h | ⟨h, _⟩)
                · exact hy h
                · simp at h
            go_wp2
            go_roundw
            case rel => exact ⟨0 + 1, y + 1, by omega, by go_num, by go_num, HD2.out, HK1.out, HB1.out⟩
            case measure => simp [intOf]; omega
          | succ k' =>
            have hk1 : (0 : Int) < (k' : Int) + 1 := by omega
            by_cases hyz : y + 1 = z
            · have HD2 : Hid (dpL (decide (k' + 1 + 1 = 0)) (y + 1) (ks.drop (k' + 1 + 1)) = dpL true 0 ks) := by
                show _ = _
                rw [← HD.out, HDD.out, if_neg]
                · rfl
                · rintro (h | ⟨_, h⟩)
                  · exact hy h
                  · exact h hyz
              have hne : (y + 1 != z) = false := by simp [hyz]
              clear hyz
              go_wp2
              go_roundw
              case rel => exact ⟨k' + 1 + 1, y + 1, by omega, by go_num, by go_num, HD2.out, HK1.out, HB1.out⟩
              case measure => simp [intOf]; omega
            · have HR : Hid ((T.mk ps ks).dp = -1) := by show _ = _; rw [HE.out, ← HD.out, HDD.out, if_pos (.inr ⟨by simp, hyz⟩)]
              have hne : (y + 1 != z) = true := by simp [hyz]
              clear hyz
              go_wp2
              go_ret
              exact ⟨by rw [HR.out]; rfl, HB1.out⟩
      · have hk' : k = nk := by omega
        have HR : Hid ((T.mk ps ks).dp = z) := by
          show _ = _
          rw [HE.out, ← HD.out, hk', HNK.out, List.drop_length]
          rfl
        clear hk' HD
        go_wp2
        go_ret
        exact ⟨by rw [HR.out]; rfl, HB.out⟩
set_option maxHeartbeats 4000000 in
theorem specFull_any (t : T) : ∀ (S : Nat → Prop) (root lf : Bool) (ap ak : Option Addr) (np cp nk ck : Nat) (w : World), Sub w S lf (.slice ap np cp) (.slice ak nk ck) t →
    Calls Tryd.prog 63 #[.agg #[.bool lf, .slice ap np cp, .slice ak nk ck], .bool root] w fun e w' => e = .returned (.bool (t.full root)) ∧ Below w.heap.size w w' := by
  induction t using T.ind
  rename_i ps ks ih
  intro S root lf ap ak np cp nk ck w h
  obtain ⟨ap', np', cp', ak', nk', ck', e1, e2, HNP, HNK, b1, b2, hlf, hP⟩ := h.shape
  cases e1
  cases e2
  have H0 := hid h
  have HIH := hid ih
  clear h ih hP
  have HB0 := hid (below_new (o := .cells #[.bool lf, .slice ap np cp, .slice ak nk ck] 98) (w := w) (Below.refl _ _))
  have KP := hid (Bk.new w 98 [.bool lf, .slice ap np cp, .slice ak nk ck])
  simp only [T.ks, T.ps] at HNK HNP
  by_cases hk : nk = 0
  · have hlf' : lf = true := by rw [hlf, hk]; rfl
    have hks : ks = [] := List.eq_nil_of_length_eq_zero (by have := HNK.out; omega)
    have HE : Hid ((T.mk ps ks).full root = (decide (np ≤ 4) && (decide (2 ≤ np) || root && decide (np = 1)))) := by show _ = _; rw [HNP.out]; subst hks; simp [T.full]
    clear H0 hlf hks
    subst hlf' hk
    by_cases a1 : np ≤ 4
    · have e1 : (np : Int) ≤ 4 := by omega
      by_cases a2 : 2 ≤ np
      · have e2 : (2 : Int) ≤ (np : Int) := by omega
        have HR : Hid ((T.mk ps ks).full root = true) := by show _ = _; rw [HE.out]; simp [a1, a2]
        go_enter Tryd.func63, Tryd.ntmps63
        go_wp2
        go_ret
        exact ⟨by rw [HR.out]; rfl, HB0.out⟩
      · have e2 : ¬ (2 : Int) ≤ (np : Int) := by omega
        cases root
        · have HR : Hid ((T.mk ps ks).full false = false) := by show _ = _; rw [HE.out]; simp [a2]
          go_enter Tryd.func63, Tryd.ntmps63
          go_wp2
          go_ret
          exact ⟨by rw [HR.out]; rfl, HB0.out⟩
        · by_cases a3 : np = 1
          · have e3 : ((np : Int) == 1) = true := by simp; omega
            have HR : Hid ((T.mk ps ks).full true = true) := by show _ = _; rw [HE.out]; simp [a3]
            clear a3
            go_enter Tryd.func63, Tryd.ntmps63
            go_wp2
            go_ret
            exact ⟨by rw [HR.out]; rfl, HB0.out⟩
          · have e3 : ((np : Int) == 1) = false := by simp; omega
            have HR : Hid ((T.mk ps ks).full true = false) := by show _ = _; rw [HE.out]; simp [a2, a3]
            clear a3
            go_enter Tryd.func63, Tryd.ntmps63
            go_wp2
            go_ret
            exact ⟨by rw [HR.out]; rfl, HB0.out⟩
    · have e1 : ¬ (np : Int) ≤ 4 := by omega
      have HR : Hid ((T.mk ps ks).full root = false) := by show _ = _; rw [HE.out]; simp [a1]
      go_enter Tryd.func63, Tryd.ntmps63
      go_wp2
      go_ret
      exact ⟨by rw [HR.out]; rfl, HB0.out⟩
  · have hlf' : lf = false := by rw [hlf]; simp [hk]
    subst hlf'
    have HE : Hid ((T.mk ps ks).full root = (decide (2 ≤ nk) && decide (nk ≤ 4) && decide (np = 0) && fullL ks)) := by
      show _ = _
      have : ks ≠ [] := by rintro rfl; have := HNK.out; simp at this; omega
      rw [HNP.out, HNK.out]
      simp [T.full, this]
    clear hlf
    by_cases a1 : nk < 2
    · have e1 : (nk : Int) < 2 := by omega
      have HR : Hid ((T.mk ps ks).full root = false) := by show _ = _; rw [HE.out]; simp; omega
      go_enter Tryd.func63, Tryd.ntmps63
      go_wp2
      go_ret
      exact ⟨by rw [HR.out]; rfl, HB0.out⟩
    · have e1 : ¬ (nk : Int) < 2 := by omega
      by_cases a2 : 4 < nk
      · have e2 : (4 : Int) < (nk : Int) := by omega
        have HR : Hid ((T.mk ps ks).full root = false) := by show _ = _; rw [HE.out]; simp; omega
        go_enter Tryd.func63, Tryd.ntmps63
        go_wp2
        go_ret
        exact ⟨by rw [HR.out]; rfl, HB0.out⟩
      · have e2 : ¬ (4 : Int) < (nk : Int) := by omega
        by_cases a3 : 0 < np
        · have e3 : (0 : Int) < (np : Int) := by omega
          have HR : Hid ((T.mk ps ks).full root = false) := by show _ = _; rw [HE.out]; simp; omega
          go_enter Tryd.func63, Tryd.ntmps63
          go_wp2
          go_ret
          exact ⟨by rw [HR.out]; rfl, HB0.out⟩
        · have e3 : ¬ (0 : Int) < (np : Int) := by omega
          have HE2 : Hid ((T.mk ps ks).full root = fullL ks) := by show _ = _; rw [HE.out]; simp [show np = 0 by omega, show 2 ≤ nk by omega, show nk ≤ 4 by omega]
          go_enter Tryd.func63, Tryd.ntmps63
          go_wp2_with fail
          go_loopw [46] (fun i wr => ∃ (k : Nat), k ≤ nk ∧ i = .int .i64 k ∧ Hid (fullL (ks.drop k) = fullL ks) ∧ Hid (Bk wr w.heap.size 98 [.bool false, .slice ap np cp, .slice ak nk ck]) ∧ Hid (Below w.heap.size w wr)) (fun i _ => nk - (intOf i).toNat)
          case atStart => exact ⟨0, Nat.zero_le _, rfl, rfl, KP.out, HB0.out⟩
          case round =>
            obtain ⟨k, hkn, rfl, HD, HK, HB⟩ := hrel
            by_cases hlt : k < nk
            · have hlt' : (k : Int) < (nk : Int) := by omega
              have hks : k < ks.length := by rw [← HNK.out]; exact hlt
              obtain ⟨g, off, hak, _, hgw, hkid⟩ := (H0.out.kept HB.out).kids (by omega)
              subst hak
              obtain ⟨l1, ap1, np1, cp1, ak1, nk1, ck1, c0, c1, c2, hs⟩ := hkid k hlt
              simp only [T.ks] at hs
              have HS := hid hs
              have p2 := HK.out.cell (j := 2) rfl
              clear hkid hs hgw
              have HDD : Hid (fullL (ks.drop k) = ((tAt ks k).full false && fullL (ks.drop (k + 1)))) := by
                show _ = _
                rw [drop_tAt hks, fullL]
              go_wp2_with fail
              refine (HIH.out (tAt ks k) (tAt_mem hks) S false l1 ap1 ak1 np1 cp1 nk1 ck1 wr HS.out).mono ?_
              rintro e w1 ⟨rfl, hb1⟩
              have HB1 := hid (HB.out.trans (hb1.mono HB.out.size))
              have HK1 := hid (HK.out.below hb1)
              clear hb1 HK HB c0 c1 c2 p2
              cases hy : (tAt ks k).full false
              · have HR : Hid ((T.mk ps ks).full root = false) := by show _ = _; rw [HE2.out, ← HD.out, HDD.out, hy]; rfl
                clear hy
                go_wp2
                go_ret
                exact ⟨by rw [HR.out]; rfl, HB1.out⟩
              · have HD2 : Hid (fullL (ks.drop (k + 1)) = fullL ks) := by show _ = _; rw [← HD.out, HDD.out, hy]; rfl
                clear hy
                go_wp2
                go_roundw
                case rel => exact ⟨k + 1, by omega, by go_num, HD2.out, HK1.out, HB1.out⟩
                case measure => simp [intOf]; omega
            · have hk' : k = nk := by omega
              have HR : Hid ((T.mk ps ks).full root = true) := by
                show _ = _
                rw [HE2.out, ← HD.out, hk', HNK.out, List.drop_length]
                rfl
              clear hk' HD
              go_wp2
              go_ret
              exact ⟨by rw [HR.out]; rfl, HB.out⟩
set_option maxHeartbeats 4000000 in
theorem specPairs_any (t : T) : ∀ (S : Nat → Prop) (lf : Bool) (ap ak : Option Addr) (np cp nk ck : Nat) (w : World), Sub w S lf (.slice ap np cp) (.slice ak nk ck) t → t.all.length ≤ 1048576 →
    Calls Tryd.prog 58 #[.agg #[.bool lf, .slice ap np cp, .slice ak nk ck]] w fun e w' => ∃ v, e = .returned v ∧ Ow w' w.heap.size v t.all ∧ Below w.heap.size w w' := by
  induction t using T.ind
  rename_i ps ks ih
  intro S lf ap ak np cp nk ck w h hal
  obtain ⟨ap', np', cp', ak', nk', ck', e1, e2, HNP, HNK, b1, b2, hlf, hP⟩ := h.shape
  cases e1
  cases e2
  have H0 := hid h
  have HP := hid hP
  have HIH := hid ih
  have HAL : Hid (ps.length + (allL ks).length ≤ 1048576) := by show _ ≤ _; simpa [T.all] using hal
  clear h ih hP hal hlf
  have HB0 : Hid (Below w.heap.size w ((w.alloc (.cells #[.bool lf, .slice ap np cp, .slice ak nk ck] 98)).alloc (.cells #[] 91))) := below_new (below_new (Below.refl _ _))
  have KP := hid ((Bk.new w 98 [.bool lf, .slice ap np cp, .slice ak nk ck]).alloc (.cells #[] 91))
  have HO : Hid (Ow ((w.alloc (.cells #[.bool lf, .slice ap np cp, .slice ak nk ck] 98)).alloc (.cells #[] 91)) (w.heap.size + 1) (.slice (some ⟨w.heap.size + 1, 0, none⟩) 0 0) []) := by
    have := ow_new (w.alloc (.cells #[.bool lf, .slice ap np cp, .slice ak nk ck] 98)) (w.heap.size + 1) (by simp)
    show Ow _ _ _ _
    simpa using this
  simp only [T.ks, T.ps] at HNK HNP HP
  go_enter Tryd.func58, Tryd.ntmps58
  go_wp2_with (at_builtin; refine wpList_append_pairs rfl _ _ rfl (w.heap.size + 1) _ [] rfl HO.out S _ ps rfl (HP.out.below HB0.out) ?q1 ?q2 ?_)
  case q1 => have := HAL.out; simp; omega
  case q2 => simp
  intro v1 w1 hO1 hg1
  have HB1 : Hid (Below (w.heap.size + 1) ((w.alloc (.cells #[.bool lf, .slice ap np cp, .slice ak nk ck] 98)).alloc (.cells #[] 91)) w1) := grown_belowB HO.out hg1 (by simp)
  have HO1 := hid hO1
  have HBW := hid (HB0.out.trans (HB1.out.mono (by omega)))
  have KP1 : Hid (Bk w1 w.heap.size 98 [.bool lf, .slice ap np cp, .slice ak nk ck]) := KP.out.to (only_of_belowB HB1.out) (by omega)
  obtain ⟨a1, n1, cc1, hv1, HN1⟩ := hO1.shape'
  subst hv1
  have p2 := KP1.out.cell (j := 2) rfl
  clear hO1 hg1 HB1 HB0 KP HO
  go_wp2_with fail
  go_loopw [3, 12] (fun x i wr => ∃ (k : Nat) (v' : Value), k ≤ nk ∧ i = .int .i64 k ∧ x = v' ∧ Hid (Ow wr (w.heap.size + 1) v' (ps ++ allL (ks.take k))) ∧ Hid (Bk wr w.heap.size 98 [.bool lf, .slice ap np cp, .slice ak nk ck]) ∧ Hid (Below w.heap.size w wr)) (fun _ i _ => nk - (intOf i).toNat)
  case atStart => exact ⟨0, _, Nat.zero_le _, rfl, rfl, by show Ow _ _ _ _; simpa [allL] using HO1.out, KP1.out, HBW.out⟩
  case round =>
    obtain ⟨k, v', hkn, rfl, hv', HO2, HK, HB⟩ := hrel
    obtain ⟨a2, n2, cc2, hv2, HN2⟩ := HO2.out.shape'
    subst hv2
    subst hv'
    clear p2
    by_cases hlt : k < nk
    · have hlt' : (k : Int) < (nk : Int) := by omega
      have hks : k < ks.length := by rw [← HNK.out]; exact hlt
      obtain ⟨g, off, hak, _, hgw, hkid⟩ := (H0.out.kept HB.out).kids (by omega)
      subst hak
      obtain ⟨l1, ap1, np1, cp1, ak1, nk1, ck1, c0, c1, c2, hs⟩ := hkid k hlt
      simp only [T.ks] at hs
      have HS := hid hs
      have p2 := HK.out.cell (j := 2) rfl
      clear hkid hs hgw
      have HTK : Hid (allL (ks.take (k + 1)) = allL (ks.take k) ++ (tAt ks k).all) := allL_take ks k hks
      have HLN : Hid ((ps ++ allL (ks.take k)).length + (tAt ks k).all.length ≤ 1048576) := by
        show _ ≤ _
        have h1 := allL_take_le ks (k + 1)
        have h2 := HAL.out
        rw [HTK.out] at h1
        simp only [List.length_append] at h1 ⊢
        omega
      go_wp2_with fail
      refine (HIH.out (tAt ks k) (tAt_mem hks) S l1 ap1 ak1 np1 cp1 nk1 ck1 wr HS.out (by have := HLN.out; omega)).mono ?_
      rintro e w2 ⟨v3, rfl, hO3, hb2⟩
      obtain ⟨a3, n3, cc3, hv3, HN3⟩ := hO3.shape'
      subst hv3
      have HO3 := hid hO3
      have HO4 := hid (HO2.out.kept hb2)
      have HK2 := hid (HK.out.below hb2)
      have HB2 := hid (HB.out.trans (hb2.mono HB.out.size))
      have HSZ : Hid (w.heap.size + 1 ≤ w2.heap.size) := HK2.out.lt
      clear hO3 hb2 HO2 HK HB c0 c1 c2 p2
      go_wp2_with (at_builtin; refine wpList_append_pairs rfl _ _ rfl (w.heap.size + 1) _ (ps ++ allL (ks.take k)) rfl HO4.out (fun _ => True) _ (tAt ks k).all rfl (HO3.out.pr (fun _ _ _ _ => trivial)) ?q1 ?q2 ?_)
      case q1 => have := HLN.out; omega
      case q2 => exact HSZ.out
      intro v5 w5 hO5 hg5
      have HB5 := grown_belowB HO4.out hg5 HSZ.out
      have HO5 : Hid (Ow w5 (w.heap.size + 1) v5 (ps ++ allL (ks.take (k + 1)))) := by
        show Ow _ _ _ _
        rw [HTK.out]
        simpa using hO5
      have HK5 : Hid (Bk w5 w.heap.size 98 [.bool lf, .slice ap np cp, .slice (some ⟨g, off, none⟩) nk ck]) := HK2.out.to (only_of_belowB HB5) (by omega)
      have HBB := hid (HB2.out.trans (HB5.mono (by omega)))
      obtain ⟨a5, n5, cc5, hv5, HN5⟩ := hO5.shape'
      subst hv5
      clear hO5 hg5 HB5 HO3 HO4 HK2 HB2
      go_wp2
      go_roundw
      case rel => exact ⟨k + 1, _, by omega, by go_num, rfl, HO5.out, HK5.out, HBB.out⟩
      case measure => simp [intOf]; omega
    · have hk' : k = nk := by omega
      have HF : Hid (Ow wr w.heap.size (.slice a2 n2 cc2) (T.mk ps ks).all) := by
        show Ow _ _ _ _
        have e : (T.mk ps ks).all = ps ++ allL (ks.take k) := by rw [hk', HNK.out, List.take_length]; simp [T.all]
        rw [e]
        exact own_mono HO2.out (by omega)
      clear hk'
      go_wp2
      go_ret
      exact ⟨_, rfl, HF.out, HB.out⟩
end Go.Proofs.YtcpdedpgjaimkaaDoor
/-
  l03Read of the specification: what is kept while it reads.
-/
namespace Go.Proofs.YtcpdedpgjaimkaaDoor
open Go.RowKit
theorem load_sub {w : World} {g : Nat} {x y z : Value} (c0 : w.cell? ⟨g, 0, none⟩ = some x) (c1 : w.cell? ⟨g, 1, none⟩ = some y) (c2 : w.cell? ⟨g, 2, none⟩ = some z) :
    (loadVar 98 ⟨g, 0, none⟩).run Tryd.prog w = .ok (.agg #[x, y, z]) w := by go_simp
theorem results_sub3 {fn : Func} {p u v : Tmp} (h : fn.results = #[.cell p 98, .tmp u, .tmp v]) (tmps : Array Value) (w : World) (g : Nat) {x y z b d : Value} (hp : tmps.getD p undef = .pointer (some ⟨g, 0, none⟩)) (hb : tmps.getD u undef = b) (hd : tmps.getD v undef = d)
    (c0 : w.cell? ⟨g, 0, none⟩ = some x) (c1 : w.cell? ⟨g, 1, none⟩ = some y) (c2 : w.cell? ⟨g, 2, none⟩ = some z) : (results fn tmps).run Tryd.prog w = .ok (.tuple #[.agg #[x, y, z], b, d]) w := by
  have hp' : tmps[p]?.getD undef = .pointer (some ⟨g, 0, none⟩) := by simpa using hp
  have hb' : tmps[u]?.getD undef = b := by simpa using hb
  have hd' : tmps[v]?.getD undef = d := by simpa using hd
  simp [results, h, hp', hb', hd', asAddr, load_sub c0 c1 c2]
/-- What comes of the specification's reading. -/
def SubPost (o : Option (T × Nat)) (w : World) (e : Ending) (w' : World) : Prop := match o with
  | none => e = .returned (.tuple #[.agg #[.bool false, .slice none 0 0, .slice none 0 0], .int .i64 0, .bool false])
  | some (t, n) => ∃ lf ap np cp ak nk ck, e = .returned (.tuple #[.agg #[.bool lf, .slice ap np cp, .slice ak nk ck], .int .i64 (n : Nat), .bool true]) ∧ Sub w' (fun y => w.heap.size ≤ y ∧ y < w'.heap.size) lf (.slice ap np cp) (.slice ak nk ck) t
theorem mkV_snoc (L : Nat → Bool) (P K : Nat → Value) (n : Nat) (l : Bool) (p k : Value) : mkV L P K n ++ [(.bool l, p, k)] = mkV (fun i => if i = n then l else L i) (fun i => if i = n then p else P i) (fun i => if i = n then k else K i) (n + 1) := by
  simp only [mkV, List.range_succ, List.map_append, List.map_cons, List.map_nil, if_true]
  congr 1
  apply List.map_congr_left
  intro i hi
  have : i ≠ n := by have := List.mem_range.1 hi; omega
  simp [this]
structure SpI (w wr : World) (sb bs : Nat) (lf : Bool) (nv pv : Value) (ps : List PB) (ts : List T) (kv : Value) (L : Nat → Bool) (P K : Nat → Value) : Prop where
  lo : w.heap.size + 3 ≤ sb ∧ sb < bs
  hi : bs ≤ wr.heap.size
  tre : Bk wr w.heap.size 88 [nv]
  res : Bk wr (w.heap.size + 1) 98 [.bool false, .slice none 0 0, .slice none 0 0]
  sub : Bk wr sb 98 [.bool lf, pv, kv]
  par : Pr wr (fun y => w.heap.size + 3 ≤ y ∧ y < bs ∧ y ≠ sb) pv ps
  row : wr.ownsRow bs 98 3 kv ts.length (ncs (mkV L P K ts.length))
  kid : ∀ i, i < ts.length → Sub wr (fun y => bs ≤ y ∧ y < wr.heap.size ∧ kv.ownBlock ≠ some y) (L i) (P i) (K i) (tAt ts i)
  bel : Below w.heap.size w wr
theorem SpI.keep {w wr w1 : World} {sb bs : Nat} {lf : Bool} {nv pv : Value} {ps : List PB} {ts : List T} {kv : Value} {L : Nat → Bool} {P K : Nat → Value} (h : SpI w wr sb bs lf nv pv ps ts kv L P K) (hb : Below wr.heap.size wr w1) : SpI w w1 sb bs lf nv pv ps ts kv L P K :=
  ⟨h.lo, Nat.le_trans h.hi hb.size, h.tre.below hb, h.res.below hb, h.sub.below hb, h.par.below hb, own_kept h.row (only_of_below hb (fun _ => False)) (fun _ _ h => h), fun i hi => ((h.kid i hi).kept hb).mono (fun _ hx _ => ⟨hx.1, Nat.lt_of_lt_of_le hx.2.1 hb.size, hx.2.2⟩), h.bel.trans (hb.mono h.bel.size)⟩
theorem SpI.push {w u w2 : World} {sb bs : Nat} {lf : Bool} {nv pv : Value} {ps : List PB} {ts : List T} {kv v' : Value} {L : Nat → Bool} {P K : Nat → Value} (h : SpI w u sb bs lf nv pv ps ts kv L P K)
    {l : Bool} {p k : Value} {t : T} (hl : Sub u (fun y => bs ≤ y ∧ y < u.heap.size ∧ kv.ownBlock ≠ some y) l p k t)
    (ho : w2.ownsRow bs 98 3 v' (ts.length + 1) (ncs (mkV L P K ts.length) ++ [.bool l, p, k])) (hg : u.grownBy w2 kv.ownBlock) (ha : v'.ownBlock = kv.ownBlock ∨ v'.ownBlock = some u.heap.size) :
    SpI w (w2.setCell ⟨sb, 2, none⟩ v') sb bs lf nv pv ps (ts ++ [t]) v' (fun i => if i = ts.length then l else L i) (fun i => if i = ts.length then p else P i) (fun i => if i = ts.length then k else K i) := by
  have hlo := h.lo
  have hkv := fun x e => (World.ownsRow.lt h.row x e).1
  have hsz : u.heap.size ≤ w2.heap.size := hg.size
  have hsb := h.sub.lt
  have hav : ∀ x, v'.ownBlock = some x → bs ≤ x := fun x e => (World.ownsRow.lt ho x e).1
  have o1 : Only (fun b => some b = kv.ownBlock) u w2 := only_of_grown hg (fun k e => e.symm)
  have o2 : Only (fun b => b = sb) w2 (w2.setCell ⟨sb, 2, none⟩ v') := only_set (R := fun b => b = sb) rfl _
  have o3 : Only (fun b => some b = kv.ownBlock ∨ b = sb) u (w2.setCell ⟨sb, 2, none⟩ v') := (o1.mono (fun _ _ e => .inl e)).then o2 (fun _ _ e => .inr e)
  have hz : (w2.setCell ⟨sb, 2, none⟩ v').heap.size = w2.heap.size := by simp [World.setCell]
  have hR : ∀ y, y < bs → y ≠ sb → ¬ (some y = kv.ownBlock ∨ y = sb) := by
    rintro y hy hne (e | e)
    · have := hkv y e.symm; omega
    · exact hne e
  have fin : ∀ {l : Bool} {p k : Value} {t : T}, Sub u (fun y => bs ≤ y ∧ y < u.heap.size ∧ kv.ownBlock ≠ some y) l p k t → Sub (w2.setCell ⟨sb, 2, none⟩ v') (fun y => bs ≤ y ∧ y < (w2.setCell ⟨sb, 2, none⟩ v').heap.size ∧ v'.ownBlock ≠ some y) l p k t := by
    intro l p k t hs
    refine (hs.to o3 (fun x hx _ => ?_)).mono (fun x hx _ => ⟨hx.1, by rw [hz]; omega, ?_⟩)
    · rintro (e | e)
      · exact hx.2.2 e.symm
      · have := hx.1; omega
    · rcases ha with ha | ha
      · rw [ha]; exact hx.2.2
      · rw [ha]; intro e; cases e; omega
  have hhi := h.hi
  refine ⟨h.lo, by rw [hz]; omega, h.tre.to o3 (hR _ (by omega) (by omega)), h.res.to o3 (hR _ (by omega) (by omega)), ?_, h.par.to o3 (fun y hy _ => hR y hy.2.1 hy.2.2), ?_, ?_, ?_⟩
  · have k1 := h.sub.to o1 (fun e => by have := hkv sb e.symm; omega)
    exact k1.set 2 v'
  · rw [List.length_append]
    have := own_kept ho o2 (fun x e => by have := hav x e; omega)
    rw [show [Value.bool l, p, k] = ncs [(.bool l, p, k)] from rfl, ← ncs_append, mkV_snoc] at this
    exact this
  · intro i hi
    rw [tAt_snoc _ _ _ hi]
    by_cases e : i = ts.length
    · subst e
      simp only [if_true]
      exact fin hl
    · simp only [e, if_false]
      simp at hi
      exact fin (h.kid i (by omega))
  · exact (h.bel.trans (o3.below (by have := h.bel.size; omega) (fun y hy => hR y (by omega) (by omega))))
theorem SpI.done {w wr : World} {sb bs : Nat} {lf : Bool} {nv pv : Value} {ps : List PB} {ts : List T} {kv : Value} {L : Nat → Bool} {P K : Nat → Value} (h : SpI w wr sb bs lf nv pv ps ts kv L P K) (hlf : lf = decide (ts.length = 0)) :
    Sub wr (fun y => (w.heap.size ≤ y ∧ y < wr.heap.size) ∧ y ≠ w.heap.size + 1) lf pv kv (.mk ps ts) := by
  have hlo := h.lo
  have hsb := h.sub.lt
  refine .mk lf pv kv ps ts L P K hlf (Rw.mono h.par (fun y hy hy2 => ⟨⟨by omega, hy2⟩, by omega⟩)) (rw_own h.row (fun y _ h1 h2 => ⟨⟨by omega, h2⟩, by omega⟩)) (fun i hi => (h.kid i hi).mono (fun y hy _ => ⟨⟨by omega, hy.2.1⟩, by omega⟩))
theorem ow_at {W : World} {g base : Nat} (hg : W.heap[g]? = some (.cells #[] 91 (0, 0))) (hb : base ≤ g) : Ow W base (.slice (some ⟨g, 0, none⟩) 0 0) [] :=
  ⟨rfl, .inr ⟨g, 0, #[], rfl, hb, hg, Nat.le_refl _, by decide, rfl, rfl⟩⟩
theorem kc2g {u v v' : World} {a0 a1 : Addr} {x0 x1 : Value} {row : Option Nat} (hg : v.grownBy v' row) (hr : ∀ k, row = some k → u.heap.size ≤ k) (h : v.cell? a0 = some x0 ∧ v.cell? a1 = some x1 ∧ KC u v [(a0, x0), (a1, x1)]) : v'.cell? a0 = some x0 ∧ v'.cell? a1 = some x1 ∧ KC u v' [(a0, x0), (a1, x1)] :=
  kc2 ⟨h.2.2.cells, h.2.2.bel.grown hg h.2.2.bel.size hr⟩
theorem kc2w {u v : World} {o o' : Obj} {a0 a1 : Addr} {x0 x1 : Value} (hs : u.heap.size ≤ v.heap.size) (h : (v.alloc o).cell? a0 = some x0 ∧ (v.alloc o).cell? a1 = some x1 ∧ KC u (v.alloc o) [(a0, x0), (a1, x1)]) : (v.alloc o').cell? a0 = some x0 ∧ (v.alloc o').cell? a1 = some x1 ∧ KC u (v.alloc o') [(a0, x0), (a1, x1)] := by
  obtain ⟨_, _, h1, h2⟩ := h
  refine kc2 ⟨h1, h2.os, h2.tape, h2.output, by simp; omega, fun k hk => ?_⟩
  rw [Below.heap_alloc _ _ _ (by omega), ← h2.block k hk, Below.heap_alloc _ _ _ (by omega)]
theorem kc2s {u v : World} {g i j k : Nat} {x y z : Value} {a0 a1 : Addr} {x0 x1 : Value} (hs : u.heap.size ≤ g) (h : v.cell? a0 = some x0 ∧ v.cell? a1 = some x1 ∧ KC u v [(a0, x0), (a1, x1)]) :
    (((v.setCell ⟨g, i, none⟩ x).setCell ⟨g, j, none⟩ y).setCell ⟨g, k, none⟩ z).cell? a0 = some x0 ∧ (((v.setCell ⟨g, i, none⟩ x).setCell ⟨g, j, none⟩ y).setCell ⟨g, k, none⟩ z).cell? a1 = some x1 ∧ KC u (((v.setCell ⟨g, i, none⟩ x).setCell ⟨g, j, none⟩ y).setCell ⟨g, k, none⟩ z) [(a0, x0), (a1, x1)] :=
  kc2 ⟨h.2.2.cells, ((h.2.2.bel.setCell hs _).setCell hs _).setCell hs _⟩
/-- append onto a new row without elements, as one step of a region that draws. -/
theorem step_clone {w : World} {ops : Array Oper} {o : Oper} {a : Act} {K : Act → World → Prop} {Q : Exit → Act → World → Prop} {E : Prop} (hgd : o.guard = none) (s x : Operand)
    (ho : o.op = .call { callee := .builtin .append, args := #[s, x], argTypes := #[84, 84] }) (base g : Nat) (hs : a.eval s = .slice (some ⟨g, 0, none⟩) 0 0) (hown : w.heap[g]? = some (.cells #[] 91 (0, 0))) (hbg : base ≤ g)
    (S : Nat → Prop) (src : Value) (m : List PB) (hx : a.eval x = src) (hsrc : Pr w S src m) (hb : m.length ≤ 2097154)
    (h : ∀ a' n' c' w', Ow w' base (.slice a' n' c') m → w.grownBy w' (some g) → ((Value.slice a' n' c').ownBlock = some g ∨ (Value.slice a' n' c').ownBlock = some w.heap.size) → (∀ b o, b < w.heap.size → b ≠ g → w'.cell? ⟨b, o, none⟩ = w.cell? ⟨b, o, none⟩) → (∀ b o, b < w.heap.size → b ≠ g → w'.frozen? ⟨b, o, none⟩ = w.frozen? ⟨b, o, none⟩) → K (a.put o.dst (.slice a' n' c')) w') :
    if Region.wanted o (yielded ops a.tmps) = true then Oper.wp Tryd.prog o a w K Q else E := by
  have hw : Region.wanted o (yielded ops a.tmps) = true := by simp [Region.wanted, hgd]
  rw [if_pos hw]
  have hO := ow_at hown hbg
  have hlt : g < w.heap.size := (Array.getElem?_eq_some_iff.1 hown).1
  obtain ⟨i, hi, hz, hsz, hby⟩ := info_of infoPairI
  obtain ⟨v', w', hr, h2, h3, h5⟩ := run_append_row_at (P := Tryd.prog) (w := w) base 84 o.type 91 i _ 2 32 Tryd.underlying84 hi hz hsz hby rfl (by decide) _ 0 [] hO S src m.length (pcs m) hsrc (pcs_length m) (pcs_one m) (by unfold maxLen; omega) (by omega) (by omega)
  have h4 : Ow w' base v' m := by
    unfold Ow
    simpa using h2
  obtain ⟨a', n', c', rfl, _⟩ := h4.shape'
  unfold Oper.wp execOp
  simp only [ho, resolve, invoke, builtin, Sem.run_bind, Sem.run_pure, Result.andThen_ok, List.map_toArray, List.map_cons, List.map_nil, hs, hx, hr]
  exact h a' n' c' w' h4 h3 h5 (fun b o hb hne => World.cell?_of_block (w := w) (h3.block b hb (fun e => hne (by cases e; rfl)))) (fun b o hb hne => World.frozen?_of_block (w := w) (h3.block b hb (fun e => hne (by cases e; rfl))))
/-- The new sub, laid ahead of its pairs' row. -/
theorem meet_set {U W w2 : World} {g sb : Nat} {lf : Bool} {a2 : Option Addr} {n2 c2 : Nat} {ps : List PB} (hb : Below U.heap.size U W) (hW : U.heap.size ≤ W.heap.size) (hO : Ow w2 U.heap.size (.slice a2 n2 c2) ps) (hg : W.grownBy w2 (some g)) (hat : (Value.slice a2 n2 c2).ownBlock = some g ∨ (Value.slice a2 n2 c2).ownBlock = some W.heap.size)
    (hs : W.heap[sb]? = some (.cells #[.bool false, .slice none 0 0, .slice none 0 0] 98 (0, 0))) (hne : sb ≠ g) (h1 : U.heap.size ≤ sb) (h2 : U.heap.size ≤ g) :
    Below U.heap.size U (((w2.setCell ⟨sb, 0, none⟩ (.bool lf)).setCell ⟨sb, 1, none⟩ (.slice a2 n2 c2)).setCell ⟨sb, 2, none⟩ (.slice none 0 0)) ∧ U.heap.size ≤ sb ∧ sb < w2.heap.size ∧ w2.heap.size ≤ (((w2.setCell ⟨sb, 0, none⟩ (.bool lf)).setCell ⟨sb, 1, none⟩ (.slice a2 n2 c2)).setCell ⟨sb, 2, none⟩ (.slice none 0 0)).heap.size ∧
      Bk (((w2.setCell ⟨sb, 0, none⟩ (.bool lf)).setCell ⟨sb, 1, none⟩ (.slice a2 n2 c2)).setCell ⟨sb, 2, none⟩ (.slice none 0 0)) sb 98 [.bool lf, .slice a2 n2 c2, .slice none 0 0] ∧
      Pr (((w2.setCell ⟨sb, 0, none⟩ (.bool lf)).setCell ⟨sb, 1, none⟩ (.slice a2 n2 c2)).setCell ⟨sb, 2, none⟩ (.slice none 0 0)) (fun y => U.heap.size ≤ y ∧ y < w2.heap.size ∧ y ≠ sb) (.slice a2 n2 c2) ps := by
  have hlt : sb < W.heap.size := (Array.getElem?_eq_some_iff.1 hs).1
  have hB : Bk w2 sb 98 [.bool false, .slice none 0 0, .slice none 0 0] := (hg.block sb hlt (fun e => hne (by cases e; rfl))).trans hs
  have hbel : Below U.heap.size U w2 := hb.grown hg hW (fun k e => by cases e; exact h2)
  have hpn : ∀ k, (Value.slice a2 n2 c2).ownBlock = some k → k ≠ sb := by
    rintro k hk rfl
    rcases hat with h | h
    · rw [hk] at h; cases h; exact hne rfl
    · rw [hk] at h; cases h; omega
  have o : Only (fun y => y = sb) w2 (((w2.setCell ⟨sb, 0, none⟩ (.bool lf)).setCell ⟨sb, 1, none⟩ (.slice a2 n2 c2)).setCell ⟨sb, 2, none⟩ (.slice none 0 0)) := ((only_set (R := fun y => y = sb) rfl _).trans (only_set (R := fun y => y = sb) rfl _)).trans (only_set (R := fun y => y = sb) rfl _)
  refine ⟨((hbel.setCell h1 _).setCell h1 _).setCell h1 _, h1, hB.lt, by simp [World.setCell], ((hB.set _ _).set _ _).set _ _, ?_⟩
  exact Rw.to (hO.pr (fun k hk h3 h4 => ⟨h3, h4, hpn k hk⟩)) o (fun y hy _ e => hy.2.2 e)
/-- The new sub, laid behind its pairs' row. -/
theorem meet_new {U W w2 : World} {g : Nat} {lf : Bool} {a2 : Option Addr} {n2 c2 : Nat} {ps : List PB} (hb : Below U.heap.size U W) (hW : U.heap.size ≤ W.heap.size) (hO : Ow w2 U.heap.size (.slice a2 n2 c2) ps) (hg : W.grownBy w2 (some g)) (h2 : U.heap.size ≤ g) :
    Below U.heap.size U (w2.alloc (.cells #[.bool lf, .slice a2 n2 c2, .slice none 0 0] 98)) ∧ U.heap.size ≤ w2.heap.size ∧ w2.heap.size < w2.heap.size + 1 ∧ w2.heap.size + 1 ≤ (w2.alloc (.cells #[.bool lf, .slice a2 n2 c2, .slice none 0 0] 98)).heap.size ∧
      Bk (w2.alloc (.cells #[.bool lf, .slice a2 n2 c2, .slice none 0 0] 98)) w2.heap.size 98 [.bool lf, .slice a2 n2 c2, .slice none 0 0] ∧
      Pr (w2.alloc (.cells #[.bool lf, .slice a2 n2 c2, .slice none 0 0] 98)) (fun y => U.heap.size ≤ y ∧ y < w2.heap.size + 1 ∧ y ≠ w2.heap.size) (.slice a2 n2 c2) ps := by
  have hbel : Below U.heap.size U w2 := hb.grown hg hW (fun k e => by cases e; exact h2)
  refine ⟨hbel.alloc hbel.size _, hbel.size, by omega, by simp, Bk.new w2 98 [.bool lf, .slice a2 n2 c2, .slice none 0 0], ?_⟩
  exact Rw.below (hO.pr (fun k _ h3 h4 => ⟨h3, by omega, by omega⟩)) (below_new (Below.refl _ _))
/-- append as one step of a region that draws. -/
theorem step_append_pairs {w : World} {ops : Array Oper} {o : Oper} {a : Act} {K : Act → World → Prop} {Q : Exit → Act → World → Prop} {E : Prop} (hgd : o.guard = none) (s x : Operand)
    (ho : o.op = .call { callee := .builtin .append, args := #[s, x], argTypes := #[84, 84] }) (base : Nat) (v : Value) (l : List PB) (hs : a.eval s = v) (hown : Ow w base v l)
    (S : Nat → Prop) (src : Value) (m : List PB) (hx : a.eval x = src) (hsrc : Pr w S src m) (hb : l.length + m.length ≤ 2097154) (hbase : base ≤ w.heap.size)
    (h : ∀ v' w', Ow w' base v' (l ++ m) → w.grownBy w' v.ownBlock → K (a.put o.dst v') w') :
    if Region.wanted o (yielded ops a.tmps) = true then Oper.wp Tryd.prog o a w K Q else E := by
  have hw : Region.wanted o (yielded ops a.tmps) = true := by simp [Region.wanted, hgd]
  rw [if_pos hw]
  obtain ⟨i, hi, hz, hsz, hby⟩ := info_of infoPairI
  obtain ⟨v', w', hr, h2, h3⟩ := run_append_row (P := Tryd.prog) (w := w) base 84 o.type 91 i _ 2 32 Tryd.underlying84 hi hz hsz hby rfl (by decide) v l.length (pcs l) hown S src m.length (pcs m) hsrc (pcs_length m) (pcs_one m) (by unfold maxLen; omega) (by omega) hbase
  unfold Oper.wp execOp
  simp only [ho, resolve, invoke, builtin, Sem.run_bind, Sem.run_pure, Result.andThen_ok, List.map_toArray, List.map_cons, List.map_nil, hs, hx, hr]
  refine h v' w' ?_ h3
  unfold Ow
  rw [List.length_append, pcs_append]
  exact h2
theorem wpList_append_sub {w : World} {ops : Array Oper} {rest : List Oper} {o : Oper} {a : Act} {Q : Exit → Act → World → Prop} (hgd : o.guard = none) (s x : Operand)
    (ho : o.op = .call { callee := .builtin .append, args := #[s, x], argTypes := #[96, 96] }) (base : Nat) (v : Value) (n : Nat) (V : List V3) (hs : a.eval s = v) (hown : w.ownsRow base 98 3 v n (ncs V))
    (g : Nat) (l : Bool) (ap : Option Addr) (np cp : Nat) (ak : Option Addr) (nk ck : Nat) (hx : a.eval x = .slice (some ⟨g, 0, none⟩) 1 1) (hB : Bk w g 98 [.bool l, .slice ap np cp, .slice ak nk ck]) (hb : n ≤ 1048576) (hbase : base ≤ w.heap.size)
    (h : ∀ v' w', w'.ownsRow base 98 3 v' (n + 1) (ncs V ++ [.bool l, .slice ap np cp, .slice ak nk ck]) → w.grownBy w' v.ownBlock → (v'.ownBlock = v.ownBlock ∨ v'.ownBlock = some w.heap.size) → wpList Tryd.prog ops Q rest (a.put o.dst v') w') : wpList Tryd.prog ops Q (o :: rest) a w := by
  obtain ⟨i, hi, hz, hsz, hby⟩ := info_of infoSub
  refine wpList_append_row_at hgd s x 96 ho base 98 i _ 3 56 Tryd.underlying96 hi hz hsz hby rfl (by decide) v n (ncs V) hs hown (fun _ => True) _ 1 [.bool l, .slice ap np cp, .slice ak nk ck] hx (hB.rw (Nat.le_refl _) (by omega) (fun h => by omega) _ trivial) rfl
    (by intro u hu; simp at hu; rcases hu with rfl | rfl | rfl <;> rfl) (by unfold maxLen; omega) (by omega) hbase h
theorem rdSL_cons (rd : Int → Option (T × Nat)) (k : Int) (kids : List Int) (nx : Nat) : rdSL rd (k :: kids) nx = if k ≠ (nx : Int) then none else match rd k with
    | none => none
    | some (t, n1) => match rdSL rd kids n1 with
      | none => none
      | some (ts, n2) => some (t :: ts, n2) := rfl
/-- What is told at the end, ts having been read. -/
def rdJ (rd : Int → Option (T × Nat)) (ts : List T) (kids : List Int) (nx : Nat) : Option (List T × Nat) := match rdSL rd kids nx with
  | none => none
  | some (ts', n) => some (ts ++ ts', n)
theorem rdJ_nil (rd : Int → Option (T × Nat)) (kids : List Int) (nx : Nat) : rdJ rd [] kids nx = rdSL rd kids nx := by
  rw [rdJ]
  cases rdSL rd kids nx with
  | none => rfl
  | some x => obtain ⟨ts, n⟩ := x; rfl
theorem rdJ_no (rd : Int → Option (T × Nat)) (ts : List T) (k : Int) (kids : List Int) (nx : Nat) (h : k ≠ (nx : Int) ∨ rd k = none) : rdJ rd ts (k :: kids) nx = none := by
  rw [rdJ, rdSL_cons]
  by_cases e : k = (nx : Int)
  · rw [if_neg (fun h => h e)]
    rcases h with h | h
    · exact absurd e h
    · rw [h]
  · rw [if_pos e]
theorem rdJ_step (rd : Int → Option (T × Nat)) (ts : List T) (k : Int) (kids : List Int) (nx n1 : Nat) (t : T) (e : k = (nx : Int)) (h : rd k = some (t, n1)) : rdJ rd ts (k :: kids) nx = rdJ rd (ts ++ [t]) kids n1 := by
  rw [rdJ, rdSL_cons, if_neg (fun h => h e), h, rdJ]
  simp only
  cases rdSL rd kids n1 with
  | none => rfl
  | some x => obtain ⟨ts', n⟩ := x; simp
theorem rdJ_end (rd : Int → Option (T × Nat)) (ts : List T) (nx : Nat) : rdJ rd ts [] nx = some (ts, nx) := by simp [rdJ, rdSL]
end Go.Proofs.YtcpdedpgjaimkaaDoor
/-
  A list of nodes that is being laid: a row of one's own, each node's slices apart from it.
-/
namespace Go.Proofs.YtcpdedpgjaimkaaDoor
open Go.RowKit
/-- A node's rows are its own. -/
def OwN (w : World) (p : V3) (x : NB) : Prop := w.ownsRow 0 91 2 p.1 x.ps.length (pcs x.ps) ∧ w.ownsRow 0 9 1 p.2.1 x.keys.length (x.keys.map Value.string) ∧ w.ownsRow 0 3 1 p.2.2 x.kids.length (x.kids.map (Value.int .i64))
def bl (p : V3) (y : Nat) : Prop := p.1.ownBlock = some y ∨ p.2.1.ownBlock = some y ∨ p.2.2.ownBlock = some y
def ap3 (p : V3) : Prop := ∀ y, (p.1.ownBlock = some y → p.2.1.ownBlock ≠ some y ∧ p.2.2.ownBlock ≠ some y) ∧ (p.2.1.ownBlock = some y → p.2.2.ownBlock ≠ some y)
theorem OwN.to {w w' : World} {R : Nat → Prop} {p : V3} {x : NB} (h : OwN w p x) (ho : Only R w w') (hR : ∀ y, bl p y → ¬ R y) : OwN w' p x :=
  ⟨own_kept h.1 ho (fun y e => hR y (.inl e)), own_kept h.2.1 ho (fun y e => hR y (.inr (.inl e))), own_kept h.2.2 ho (fun y e => hR y (.inr (.inr e)))⟩
theorem OwN.lt {w : World} {p : V3} {x : NB} (h : OwN w p x) {y : Nat} (hy : bl p y) : y < w.heap.size := by
  rcases hy with e | e | e
  · exact (World.ownsRow.lt h.1 y e).2
  · exact (World.ownsRow.lt h.2.1 y e).2
  · exact (World.ownsRow.lt h.2.2 y e).2
theorem own_lower {w : World} {base : Nat} {e : TypeId} {size n : Nat} {v : Value} {xs : List Value} (h : w.ownsRow base e size v n xs) : w.ownsRow 0 e size v n xs := by
  refine ⟨h.1, h.2.imp id ?_⟩
  rintro ⟨g, cap, cur, h1, h2, h3⟩
  exact ⟨g, cap, cur, h1, Nat.zero_le _, h3⟩
theorem own_ge {w : World} {base : Nat} {e : TypeId} {size n : Nat} {v : Value} {xs : List Value} (h : w.ownsRow base e size v n xs) (k : Nat) (hk : v.ownBlock = some k) : base ≤ k := by
  rcases h.2 with ⟨rfl, _⟩ | ⟨g, cap, cur, rfl, hb, _⟩
  · cases hk
  · cases hk; exact hb
/-- A node whose rows are its own, in blocks of F, apart from each other. -/
def N1K (w : World) (F : Nat → Prop) (p : V3) (x : NB) : Prop := N1 w F p x ∧ OwN w p x ∧ ap3 p ∧ ∀ y, bl p y → F y
theorem N1K.to {w w' : World} {S R : Nat → Prop} {p : V3} {x : NB} (h : N1K w S p x) (ho : Only R w w') (hd : ∀ b, S b → b < w.heap.size → ¬ R b) : N1K w' S p x :=
  ⟨h.1.to ho hd, h.2.1.to ho (fun y hy => hd y (h.2.2.2 y hy) (h.2.1.lt hy)), h.2.2⟩
theorem N1K.mono {w : World} {S R : Nat → Prop} {p : V3} {x : NB} (h : N1K w S p x) (hd : ∀ b, S b → b < w.heap.size → R b) : N1K w R p x :=
  ⟨h.1.mono hd, h.2.1, h.2.2.1, fun y hy => hd y (h.2.2.2 y hy) (h.2.1.lt hy)⟩
theorem OwN.n1 {w : World} {S : Nat → Prop} {p : V3} {x : NB} (h : OwN w p x) (hS : ∀ y, bl p y → S y) : N1 w S p x :=
  ⟨rw_own h.1 (fun k e _ _ => hS k (.inl e)), rw_own h.2.1 (fun k e _ _ => hS k (.inr (.inl e))), rw_own h.2.2 (fun k e _ _ => hS k (.inr (.inr e)))⟩
theorem n1K_nil (w : World) (F : Nat → Prop) : N1K w F (.slice none 0 0, .slice none 0 0, .slice none 0 0) ⟨[], [], []⟩ :=
  ⟨⟨rw_nil _ _, rw_nil _ _, rw_nil _ _⟩, ⟨World.ownsRow_nil _ _ _ _, World.ownsRow_nil _ _ _ _, World.ownsRow_nil _ _ _ _⟩, fun y => ⟨fun e => by (cases e), fun e => by (cases e)⟩, fun y hy => by rcases hy with e | e | e <;> cases e⟩
def apartV (V : List V3) (n : Nat) : Prop := ∀ i j, i < n → j < n → i ≠ j → ∀ y, bl (vAt V i) y → ¬ bl (vAt V j) y
/-- The nodes ns lie in a row of their own, their rows too, all apart. -/
def NrK (w : World) (S : Nat → Prop) (v : Value) (ns : List NB) : Prop := ∃ V : List V3, V.length = ns.length ∧ (w.ownsRow 0 112 3 v ns.length (ncs V) ∧ ∀ y, v.ownBlock = some y → S y) ∧ (∀ i, i < ns.length → N1K w S (vAt V i) (nAt ns i)) ∧ apartV V ns.length ∧ ∀ i, i < ns.length → ∀ y, bl (vAt V i) y → v.ownBlock ≠ some y
theorem NrK.to {w w' : World} {S R : Nat → Prop} {v : Value} {ns : List NB} (h : NrK w S v ns) (ho : Only R w w') (hd : ∀ b, S b → b < w.heap.size → ¬ R b) : NrK w' S v ns := by
  obtain ⟨V, h1, h2, h3, h4⟩ := h
  exact ⟨V, h1, ⟨own_kept h2.1 ho (fun k hk => hd k (h2.2 k hk) (World.ownsRow.lt h2.1 k hk).2), h2.2⟩, fun i hi => (h3 i hi).to ho hd, h4⟩
theorem NrK.mono {w : World} {S R : Nat → Prop} {v : Value} {ns : List NB} (h : NrK w S v ns) (hd : ∀ b, S b → b < w.heap.size → R b) : NrK w R v ns := by
  obtain ⟨V, h1, h2, h3, h4⟩ := h
  exact ⟨V, h1, ⟨h2.1, fun y hy => hd y (h2.2 y hy) (World.ownsRow.lt h2.1 y hy).2⟩, fun i hi => (h3 i hi).mono hd, h4⟩
theorem NrK.below {w w' : World} {S : Nat → Prop} {v : Value} {ns : List NB} (h : NrK w S v ns) (hb : Below w.heap.size w w') : NrK w' S v ns := h.to (only_of_below hb (fun _ => False)) (fun _ _ _ h => h)
theorem NrK.nr {w : World} {S : Nat → Prop} {v : Value} {ns : List NB} (h : NrK w S v ns) : Nr w S v ns := by
  obtain ⟨V, h1, h2, h3, h4⟩ := h
  exact ⟨V, h1, rw_own h2.1 (fun y hy _ _ => h2.2 y hy), fun i hi => (h3 i hi).1⟩
theorem nrK_nil (w : World) (S : Nat → Prop) : NrK w S (.slice none 0 0) [] := ⟨[], rfl, ⟨World.ownsRow_nil _ _ _ _, fun y hy => by cases hy⟩, fun i hi => by simp at hi, fun i j hi => absurd hi (Nat.not_lt_zero _), fun i hi => by simp at hi⟩
/-- The slice value v owns a row of the nodes ns; what the nodes lead to lies in blocks of F. -/
def NO (w : World) (F : Nat → Prop) (v : Value) (ns : List NB) : Prop :=
  ∃ V : List V3, V.length = ns.length ∧ w.ownsRow 0 112 3 v ns.length (ncs V) ∧ (∀ i, i < ns.length → N1K w F (vAt V i) (nAt ns i)) ∧ (∀ y, F y → y < w.heap.size ∧ v.ownBlock ≠ some y) ∧ apartV V ns.length
theorem NO.to {w w' : World} {R F : Nat → Prop} {v : Value} {ns : List NB} (h : NO w F v ns) (ho : Only R w w') (hv : ∀ y, v.ownBlock = some y → ¬ R y) (hF : ∀ y, F y → ¬ R y) : NO w' F v ns := by
  obtain ⟨V, h1, h2, h3, h4, h5⟩ := h
  exact ⟨V, h1, own_kept h2 ho hv, fun i hi => (h3 i hi).to ho (fun y hy _ => hF y hy), fun y hy => ⟨Nat.lt_of_lt_of_le (h4 y hy).1 ho.size, (h4 y hy).2⟩, h5⟩
theorem NO.kept {w w' : World} {F : Nat → Prop} {v : Value} {ns : List NB} (h : NO w F v ns) (hb : Below w.heap.size w w') : NO w' F v ns := h.to (only_of_below hb (fun _ => False)) (fun _ _ h => h) (fun _ _ h => h)
theorem NO.mono {w : World} {F G : Nat → Prop} {v : Value} {ns : List NB} (h : NO w F v ns) (hF : ∀ y, F y → G y) (hG : ∀ y, G y → y < w.heap.size ∧ v.ownBlock ≠ some y) : NO w G v ns := by
  obtain ⟨V, h1, h2, h3, h4, h5⟩ := h
  exact ⟨V, h1, h2, fun i hi => (h3 i hi).mono (fun y hy _ => hF y hy), hG, h5⟩
theorem NO.shape {w : World} {F : Nat → Prop} {v : Value} {ns : List NB} (h : NO w F v ns) : ∃ a n c, v = .slice a n c ∧ Hid (n = ns.length) := by
  obtain ⟨V, h1, h2, h3, h4⟩ := h
  obtain ⟨a, c, rfl⟩ := own_shape h2
  exact ⟨a, _, c, rfl, rfl⟩
theorem NO.nr {w : World} {F S : Nat → Prop} {v : Value} {ns : List NB} (h : NO w F v ns) (hS : ∀ y, y < w.heap.size → S y) : Nr w S v ns := by
  obtain ⟨V, h1, h2, h3, h4⟩ := h
  exact ⟨V, h1, rw_own h2 (fun y _ _ hy => hS y hy), fun i hi => (h3 i hi).1.mono (fun y _ hy => hS y hy)⟩
theorem no_nil (w : World) : NO w (fun _ => False) (.slice none 0 0) [] := ⟨[], rfl, World.ownsRow_nil _ _ _ _, fun i hi => by simp at hi, fun _ h => h.elim, fun i j hi => absurd hi (Nat.not_lt_zero _)⟩
theorem NO.lt {w : World} {F : Nat → Prop} {v : Value} {ns : List NB} (h : NO w F v ns) : ∀ y, v.ownBlock = some y → y < w.heap.size := by
  obtain ⟨V, h1, h2, h3, h4⟩ := h
  exact fun y hy => (World.ownsRow.lt h2 y hy).2
theorem nAt_append_left {ns ms : List NB} {i : Nat} (h : i < ns.length) : nAt (ns ++ ms) i = nAt ns i := by simp [nAt, List.getElem?_append_left h]
theorem nAt_append_at (ns : List NB) (x : NB) (ms : List NB) : nAt (ns ++ x :: ms) ns.length = x := by simp [nAt]
theorem vAt_append_left {V W : List V3} {i : Nat} (h : i < V.length) : vAt (V ++ W) i = vAt V i := by simp [vAt, List.getElem?_append_left h]
theorem vAt_append_at (V : List V3) (x : V3) : vAt (V ++ [x]) V.length = x := by simp [vAt]
/-- append(nodes, Node{}). -/
theorem NO.push {u w2 : World} {F : Nat → Prop} {v v' : Value} {ns : List NB} (h : NO u F v ns) (x : NB) (p : V3) (hx : N1K u (fun _ => False) p x) (ho : ∀ V : List V3, V.length = ns.length → u.ownsRow 0 112 3 v ns.length (ncs V) → w2.ownsRow 0 112 3 v' (ns.length + 1) (ncs V ++ [p.1, p.2.1, p.2.2])) (hg : u.grownBy w2 v.ownBlock) (ha : v'.ownBlock = v.ownBlock ∨ v'.ownBlock = some u.heap.size) :
    NO w2 F v' (ns ++ [x]) := by
  obtain ⟨V, h1, h2, h3, h4, h5⟩ := h
  have o : Only (fun y => v.ownBlock = some y) u w2 := only_of_grown hg (fun k e => e)
  refine ⟨V ++ [p], by simp [h1], ?_, fun i hi => ?_, fun y hy => ⟨Nat.lt_of_lt_of_le (h4 y hy).1 hg.size, ?_⟩, fun i j hi hj hij y hy hz => ?_⟩
  · rw [ncs_append, List.length_append]
    exact ho V h1 h2
  · simp at hi
    by_cases e : i < ns.length
    · rw [vAt_append_left (by omega), nAt_append_left e]
      exact (h3 i e).to o (fun y hy _ hv => (h4 y hy).2 hv)
    · obtain rfl : i = ns.length := by omega
      rw [nAt_append_at, ← h1, vAt_append_at]
      exact (hx.to o (fun y hy => hy.elim)).mono (fun y hy => hy.elim)
  · rcases ha with ha | ha
    · rw [ha]; exact (h4 y hy).2
    · rw [ha]; intro e; have := (h4 y hy).1; cases e; omega
  · have hat : ∀ i, i < (ns ++ [x]).length → (i < ns.length ∧ vAt (V ++ [p]) i = vAt V i) ∨ vAt (V ++ [p]) i = p := by
      intro i hi
      simp at hi
      by_cases e : i < ns.length
      · exact .inl ⟨e, vAt_append_left (by omega)⟩
      · obtain rfl : i = ns.length := by omega
        exact .inr (by rw [← h1, vAt_append_at])
    rcases hat i hi with ⟨e, e1⟩ | e1
    · rcases hat j hj with ⟨d, d1⟩ | d1
      · rw [e1] at hy; rw [d1] at hz; exact h5 i j e d hij y hy hz
      · rw [d1] at hz; exact hx.2.2.2 y hz
    · rw [e1] at hy; exact hx.2.2.2 y hy
/-- One node's values are stored anew. -/
theorem NO.put {w : World} {F G : Nat → Prop} {v : Value} {ms l : List NB} {x z : NB} {g n c : Nat} (hv : v = .slice (some ⟨g, 0, none⟩) n c) (h' : NO w G v (ms ++ z :: l)) (hGF : ∀ y, G y → F y) (hFF : ∀ y, F y → y < w.heap.size ∧ v.ownBlock ≠ some y) (p : V3) (hx : N1K w F p x) (hn : ∀ y, bl p y → ¬ G y) :
    NO (((w.setCell ⟨g, ms.length * 3, none⟩ p.1).setCell ⟨g, ms.length * 3 + 1, none⟩ p.2.1).setCell ⟨g, ms.length * 3 + 2, none⟩ p.2.2) F v (ms ++ x :: l) := by
  subst hv
  obtain ⟨V, h1, h2, h3', _, h5⟩ := h'
  have h3 := fun i hi => (h3' i hi).mono (R := F) (fun y hy _ => hGF y hy)
  have h4 := hFF
  have hgb : (Value.slice (some ⟨g, 0, none⟩) n c).ownBlock = some g := rfl
  have o : Only (fun y => y = g) w (((w.setCell ⟨g, ms.length * 3, none⟩ p.1).setCell ⟨g, ms.length * 3 + 1, none⟩ p.2.1).setCell ⟨g, ms.length * 3 + 2, none⟩ p.2.2) := ((only_set (R := fun y => y = g) rfl _).trans (only_set (R := fun y => y = g) rfl _)).trans (only_set (R := fun y => y = g) rfl _)
  have hF : ∀ y, F y → ¬ y = g := fun y hy e => (h4 y hy).2 (by rw [hgb, e])
  have hl : ms.length < (ms ++ z :: l).length := by simp
  have hl2 : (ms ++ x :: l).length = (ms ++ z :: l).length := by simp
  refine ⟨V.set ms.length p, by rw [List.length_set, h1, hl2], ?_, fun i hi => ?_, fun y hy => ⟨Nat.lt_of_lt_of_le (h4 y hy).1 o.size, (h4 y hy).2⟩, fun i j hi hj hij y hy hz => ?_⟩
  · rw [ncs_set _ _ _ (by omega), hl2]
    obtain ⟨k1, k2⟩ := h2
    rcases k2 with ⟨k2, _⟩ | ⟨g', cap, cur, e, k3, k4, k5, k6, k7, k8⟩
    · cases k2
    · cases e
      refine ⟨by simpa using k1, .inr ⟨g, c, ((cur.setIfInBounds (ms.length * 3) p.1).setIfInBounds (ms.length * 3 + 1) p.2.1).setIfInBounds (ms.length * 3 + 2) p.2.2, rfl, k3, ?_, k5, k6, by simpa using k7, ?_⟩⟩
      · simp [World.setCell, Array.getElem?_modify, k4]
      · rw [← k8]
        simp only [Array.toList_setIfInBounds, List.take_set]
  · by_cases e : i = ms.length
    · subst e
      rw [vAt_set _ _ _ (by omega), nAt_append_at]
      exact hx.to o (fun y hy _ => hF y hy)
    · rw [vAt_other _ _ _ _ e]
      have : nAt (ms ++ x :: l) i = nAt (ms ++ z :: l) i := by
        by_cases hi2 : i < ms.length
        · rw [nAt_append_left hi2, nAt_append_left hi2]
        · obtain ⟨j, rfl⟩ : ∃ j, i = ms.length + 1 + j := ⟨i - ms.length - 1, by omega⟩
          simp only [nAt]
          rw [List.getElem?_append_right (by omega), List.getElem?_append_right (by omega), show ms.length + 1 + j - ms.length = j + 1 by omega]
          rfl
      rw [this]
      exact (h3 i (by omega)).to o (fun y hy _ => hF y hy)
  · rw [hl2] at hi hj
    by_cases e : i = ms.length
    · subst e
      rw [vAt_set _ _ _ (by omega)] at hy
      rw [vAt_other _ _ _ _ (Ne.symm hij)] at hz
      exact hn y hy ((h3' j hj).2.2.2 y hz)
    · rw [vAt_other _ _ _ _ e] at hy
      by_cases d : j = ms.length
      · subst d
        rw [vAt_set _ _ _ (by omega)] at hz
        exact hn y hz ((h3' i hi).2.2.2 y hy)
      · rw [vAt_other _ _ _ _ d] at hz
        exact h5 i j hi hj hij y hy hz
/-- How far l03Lay has come with a branch. -/
structure LyI (w wr : World) (F : Nat → Prop) (v vv q0 q1 q2 : Value) (nb : Nat) (kx ki : Value) (Fk : Nat → Prop) (L : List NB) (keys : List ByteArray) (kids : List Int) : Prop where
  fw : ∀ y, F y → y < w.heap.size
  vw : ∀ y, v.ownBlock = some y → y < w.heap.size
  lo : w.heap.size < nb
  nodes : NO wr Fk vv L
  par : Bk wr w.heap.size 98 [q0, q1, q2]
  nod : Bk wr nb 112 [.slice none 0 0, kx, ki]
  rx : wr.ownsRow 0 9 1 kx keys.length (keys.map Value.string)
  ri : wr.ownsRow 0 3 1 ki kids.length (kids.map (Value.int .i64))
  fk : ∀ y, Fk y → (F y ∨ w.heap.size < y) ∧ y ≠ nb ∧ kx.ownBlock ≠ some y ∧ ki.ownBlock ≠ some y
  ff : ∀ y, F y → Fk y
  vb : ∀ y, vv.ownBlock = some y → (v.ownBlock = some y ∨ w.heap.size < y) ∧ y ≠ nb ∧ kx.ownBlock ≠ some y ∧ ki.ownBlock ≠ some y
  xb : ∀ y, kx.ownBlock = some y → w.heap.size < y ∧ y ≠ nb ∧ ki.ownBlock ≠ some y
  ib : ∀ y, ki.ownBlock = some y → w.heap.size < y ∧ y ≠ nb
  only : Only (fun y => v.ownBlock = some y) w wr
theorem LyI.keep {w wr w1 : World} {F : Nat → Prop} {v vv q0 q1 q2 : Value} {nb : Nat} {kx ki : Value} {Fk : Nat → Prop} {L : List NB} {keys : List ByteArray} {kids : List Int} (h : LyI w wr F v vv q0 q1 q2 nb kx ki Fk L keys kids) (hb : Below wr.heap.size wr w1) :
    LyI w w1 F v vv q0 q1 q2 nb kx ki Fk L keys kids :=
  { h with nodes := h.nodes.kept hb, par := h.par.below hb, nod := h.nod.below hb, rx := own_kept h.rx (only_of_below hb (fun _ => False)) (fun _ _ h => h), ri := own_kept h.ri (only_of_below hb (fun _ => False)) (fun _ _ h => h), only := h.only.trans (only_of_below hb _) }
/-- One more kid's number. -/
theorem LyI.addKid {w u w2 : World} {F : Nat → Prop} {v vv q0 q1 q2 : Value} {nb : Nat} {kx ki ki' : Value} {Fk : Nat → Prop} {L : List NB} {keys : List ByteArray} {kids : List Int} (h : LyI w u F v vv q0 q1 q2 nb kx ki Fk L keys kids) (z : Int)
    (ho : w2.ownsRow 0 3 1 ki' (kids.length + 1) (kids.map (Value.int .i64) ++ [.int .i64 z])) (hg : u.grownBy w2 ki.ownBlock) (ha : ki'.ownBlock = ki.ownBlock ∨ ki'.ownBlock = some u.heap.size) :
    LyI w (w2.setCell ⟨nb, 2, none⟩ ki') F v vv q0 q1 q2 nb kx ki' Fk L keys (kids ++ [z]) := by
  have hlo := h.lo
  have hnb := h.nod.lt
  have hu := h.only.size
  have o1 : Only (fun y => ki.ownBlock = some y) u w2 := only_of_grown hg (fun k e => e)
  have o2 : Only (fun y => y = nb) w2 (w2.setCell ⟨nb, 2, none⟩ ki') := only_set (R := fun y => y = nb) rfl _
  have o3 : Only (fun y => ki.ownBlock = some y ∨ y = nb) u (w2.setCell ⟨nb, 2, none⟩ ki') := (o1.mono (fun _ _ e => .inl e)).then o2 (fun _ _ e => .inr e)
  have new : ∀ y, y < u.heap.size → ki.ownBlock ≠ some y → ki'.ownBlock ≠ some y := by
    intro y hy hne e
    rcases ha with ha | ha
    · exact hne (ha ▸ e)
    · rw [ha] at e; cases e; omega
  have hki : ∀ y, ki'.ownBlock = some y → w.heap.size < y ∧ y ≠ nb := by
    intro y e
    rcases ha with ha | ha
    · exact h.ib y (ha ▸ e)
    · rw [ha] at e; cases e; omega
  refine ⟨h.fw, h.vw, h.lo, h.nodes.to o3 ?_ ?_, h.par.to o3 ?_, ?_, ?_, ?_, ?_, h.ff, ?_, ?_, hki, ?_⟩
  · rintro y hy (e | e)
    · exact (h.vb y hy).2.2.2 e
    · exact (h.vb y hy).2.1 e
  · rintro y hy (e | e)
    · exact (h.fk y hy).2.2.2 e
    · exact (h.fk y hy).2.1 e
  · rintro (e | e)
    · have := h.ib _ e; omega
    · omega
  · have k1 := h.nod.to o1 (fun e => (h.ib nb e).2 rfl)
    exact k1.set 2 ki'
  · exact own_kept h.rx o3 (by
      rintro y hy (e | e)
      · exact (h.xb y hy).2.2 e
      · exact (h.xb y hy).2.1 e)
  · have := own_kept ho o2 (fun y hy e => (hki y hy).2 e)
    simpa using this
  · intro y hy
    obtain ⟨a1, a2, a3, a4⟩ := h.fk y hy
    obtain ⟨V, _, _, _, n4, _⟩ := h.nodes
    exact ⟨a1, a2, a3, new y (n4 y hy).1 a4⟩
  · intro y hy
    obtain ⟨a1, a2, a3, a4⟩ := h.vb y hy
    exact ⟨a1, a2, a3, new y (h.nodes.lt y hy) a4⟩
  · intro y hy
    obtain ⟨a1, a2, a3⟩ := h.xb y hy
    exact ⟨a1, a2, new y (World.ownsRow.lt h.rx y hy).2 a3⟩
  · refine h.only.then o3 (fun y hy e => ?_)
    rcases e with e | e
    · have := h.ib y e; omega
    · omega
/-- One more kid's least key. -/
theorem LyI.addKey {w u w2 : World} {F : Nat → Prop} {v vv q0 q1 q2 : Value} {nb : Nat} {kx ki kx' : Value} {Fk : Nat → Prop} {L : List NB} {keys : List ByteArray} {kids : List Int} (h : LyI w u F v vv q0 q1 q2 nb kx ki Fk L keys kids) (z : ByteArray)
    (ho : w2.ownsRow 0 9 1 kx' (keys.length + 1) (keys.map Value.string ++ [.string z])) (hg : u.grownBy w2 kx.ownBlock) (ha : kx'.ownBlock = kx.ownBlock ∨ kx'.ownBlock = some u.heap.size) :
    LyI w (w2.setCell ⟨nb, 1, none⟩ kx') F v vv q0 q1 q2 nb kx' ki Fk L (keys ++ [z]) kids := by
  have hlo := h.lo
  have hnb := h.nod.lt
  have hu := h.only.size
  have o1 : Only (fun y => kx.ownBlock = some y) u w2 := only_of_grown hg (fun k e => e)
  have o2 : Only (fun y => y = nb) w2 (w2.setCell ⟨nb, 1, none⟩ kx') := only_set (R := fun y => y = nb) rfl _
  have o3 : Only (fun y => kx.ownBlock = some y ∨ y = nb) u (w2.setCell ⟨nb, 1, none⟩ kx') := (o1.mono (fun _ _ e => .inl e)).then o2 (fun _ _ e => .inr e)
  have new : ∀ y, y < u.heap.size → kx.ownBlock ≠ some y → kx'.ownBlock ≠ some y := by
    intro y hy hne e
    rcases ha with ha | ha
    · exact hne (ha ▸ e)
    · rw [ha] at e; cases e; omega
  have hkx : ∀ y, kx'.ownBlock = some y → w.heap.size < y ∧ y ≠ nb ∧ ki.ownBlock ≠ some y := by
    intro y e
    rcases ha with ha | ha
    · exact h.xb y (ha ▸ e)
    · rw [ha] at e; cases e
      exact ⟨by omega, by omega, fun e => by have := (World.ownsRow.lt h.ri _ e).2; omega⟩
  refine ⟨h.fw, h.vw, h.lo, h.nodes.to o3 ?_ ?_, h.par.to o3 ?_, ?_, ?_, ?_, ?_, h.ff, ?_, hkx, h.ib, ?_⟩
  · rintro y hy (e | e)
    · exact (h.vb y hy).2.2.1 e
    · exact (h.vb y hy).2.1 e
  · rintro y hy (e | e)
    · exact (h.fk y hy).2.2.1 e
    · exact (h.fk y hy).2.1 e
  · rintro (e | e)
    · have := h.xb _ e; omega
    · omega
  · have k1 := h.nod.to o1 (fun e => (h.xb nb e).2.1 rfl)
    exact k1.set 1 kx'
  · have := own_kept ho o2 (fun y hy e => (hkx y hy).2.1 e)
    simpa using this
  · exact own_kept h.ri o3 (by
      rintro y hy (e | e)
      · exact (h.xb y e).2.2 hy
      · exact (h.ib y hy).2 e)
  · intro y hy
    obtain ⟨a1, a2, a3, a4⟩ := h.fk y hy
    obtain ⟨V, _, _, _, n4, _⟩ := h.nodes
    exact ⟨a1, a2, new y (n4 y hy).1 a3, a4⟩
  · intro y hy
    obtain ⟨a1, a2, a3, a4⟩ := h.vb y hy
    exact ⟨a1, a2, new y (h.nodes.lt y hy) a3, a4⟩
  · refine h.only.then o3 (fun y hy e => ?_)
    rcases e with e | e
    · have := h.xb y e; omega
    · omega
/-- A kid's nodes have been laid. -/
theorem LyI.sub {w wr w1 : World} {F : Nat → Prop} {v vv v1 q0 q1 q2 : Value} {nb : Nat} {kx ki : Value} {Fk : Nat → Prop} {L M : List NB} {keys : List ByteArray} {kids : List Int} (h : LyI w wr F v vv q0 q1 q2 nb kx ki Fk L keys kids)
    (hn : NO w1 (fun y => Fk y ∨ (wr.heap.size ≤ y ∧ y < w1.heap.size ∧ v1.ownBlock ≠ some y)) v1 M) (ho : Only (fun y => vv.ownBlock = some y) wr w1) (hv : ∀ y, v1.ownBlock = some y → vv.ownBlock = some y ∨ wr.heap.size ≤ y) :
    LyI w w1 F v v1 q0 q1 q2 nb kx ki (fun y => Fk y ∨ (wr.heap.size ≤ y ∧ y < w1.heap.size ∧ v1.ownBlock ≠ some y)) M keys kids := by
  have hlo := h.lo
  have hnb := h.nod.lt
  have hp := h.par.lt
  have lx := fun y e => (World.ownsRow.lt h.rx y e).2
  have li := fun y e => (World.ownsRow.lt h.ri y e).2
  have nx : ∀ y, wr.heap.size ≤ y → y ≠ nb ∧ kx.ownBlock ≠ some y ∧ ki.ownBlock ≠ some y := by
    intro y hy
    refine ⟨by omega, fun e => ?_, fun e => ?_⟩
    · have := lx y e; omega
    · have := li y e; omega
  refine ⟨h.fw, h.vw, h.lo, hn, h.par.to ho (fun e => ?_), h.nod.to ho (fun e => (h.vb nb e).2.1 rfl), own_kept h.rx ho (fun y hy e => (h.vb y e).2.2.1 hy), own_kept h.ri ho (fun y hy e => (h.vb y e).2.2.2 hy), ?_, fun y hy => .inl (h.ff y hy), ?_, h.xb, h.ib, ?_⟩
  · rcases (h.vb _ e).1 with e | e
    · have := h.vw _ e; omega
    · omega
  · rintro y (hy | ⟨hy, _, _⟩)
    · exact h.fk y hy
    · exact ⟨.inr (by omega), nx y hy⟩
  · intro y hy
    rcases hv y hy with e | e
    · exact h.vb y e
    · exact ⟨.inr (by omega), nx y e⟩
  · refine h.only.then ho (fun y hy e => ?_)
    rcases (h.vb y e).1 with e | e
    · exact e
    · omega
end Go.Proofs.YtcpdedpgjaimkaaDoor
/-
  l03Lay of the specification: laws of append for it, and plain facts of lists.
-/
namespace Go.Proofs.YtcpdedpgjaimkaaDoor
open Go.RowKit
theorem wpList_append_zero {w : World} {ops : Array Oper} {rest : List Oper} {o : Oper} {a : Act} {Q : Exit → Act → World → Prop} (hgd : o.guard = none) (s x : Operand)
    (ho : o.op = .call { callee := .builtin .append, args := #[s, x], argTypes := #[86, 86] }) (F : Nat → Prop) (v : Value) (ns : List NB) (hs : a.eval s = v) (hown : NO w F v ns)
    (g : Nat) (hx : a.eval x = .slice (some ⟨g, 0, none⟩) 1 1) (hB : Bk w g 112 [.slice none 0 0, .slice none 0 0, .slice none 0 0]) (hb : ns.length ≤ 1048576)
    (h : ∀ g' n' c' w', NO w' F (.slice (some ⟨g', 0, none⟩) n' c') (ns ++ [⟨[], [], []⟩]) → Hid (n' = ns.length + 1) → w.grownBy w' v.ownBlock → ((Value.slice (some ⟨g', 0, none⟩) n' c').ownBlock = v.ownBlock ∨ (Value.slice (some ⟨g', 0, none⟩) n' c').ownBlock = some w.heap.size) → wpList Tryd.prog ops Q rest (a.put o.dst (.slice (some ⟨g', 0, none⟩) n' c')) w') : wpList Tryd.prog ops Q (o :: rest) a w := by
  obtain ⟨i, hi, hz, hsz, hby⟩ := info_of infoNodeI
  have hown' := hown
  obtain ⟨V, h1, h2, h3, h4⟩ := hown'
  refine wpList_append_row_at hgd s x 86 ho 0 112 i _ 3 72 Tryd.underlying86 hi hz hsz hby rfl (by decide) v ns.length (ncs V) hs h2 (fun _ => True) _ 1 [.slice none 0 0, .slice none 0 0, .slice none 0 0] hx (hB.rw (Nat.le_refl _) (by omega) (fun h => by omega) _ trivial) rfl
    (by intro u hu; simp at hu; subst hu; rfl) (by unfold maxLen; omega) (by omega) (Nat.zero_le _) ?_
  intro v' w' k1 k2 k3
  rcases k1.2 with ⟨_, e⟩ | ⟨g', cap, cur, e, _⟩
  · omega
  · subst e
    refine h g' _ cap w' ?_ rfl k2 k3
    have hN0 : NO w F v ns := hown
    refine hN0.push ⟨[], [], []⟩ (.slice none 0 0, .slice none 0 0, .slice none 0 0) (n1K_nil _ _) (fun V' e1 e2 => ?_) k2 k3
    have hV : ncs V' = ncs V := by
      rcases e2.2 with ⟨rfl, e3⟩ | ⟨g1, c1, cur1, rfl, _, e5, _, _, _, e6⟩
      · rw [List.eq_nil_of_length_eq_zero (by omega : V'.length = 0), List.eq_nil_of_length_eq_zero (by omega : V.length = 0)]
      · rcases h2.2 with ⟨e7, _⟩ | ⟨g2, c2, cur2, e7, _, e8, _, _, _, e9⟩
        · cases e7
        · cases e7
          rw [e5] at e8
          cases e8
          rw [← e6, ← e9]
    rw [hV]
    exact k1
theorem kc0_5 {u : World} {a0 a1 a2 a3 a4 : Addr} {x0 x1 x2 x3 x4 : Value} (h0 : u.cell? a0 = some x0) (h1 : u.cell? a1 = some x1) (h2 : u.cell? a2 = some x2) (h3 : u.cell? a3 = some x3) (h4 : u.cell? a4 = some x4) : KC u u [(a0, x0), (a1, x1), (a2, x2), (a3, x3), (a4, x4)] :=
  ⟨fun p hp => by simp at hp; rcases hp with rfl | rfl | rfl | rfl | rfl <;> assumption, Below.refl _ _⟩
theorem NO.rowAt {w : World} {F : Nat → Prop} {a : Option Addr} {n c : Nat} {ns : List NB} (h : NO w F (.slice a n c) ns) (hp : 0 < ns.length) : ∃ g, a = some ⟨g, 0, none⟩ ∧ Hid (n = ns.length) := by
  obtain ⟨V, h1, h2, h3, h4⟩ := h
  rcases h2.2 with ⟨e, e2⟩ | ⟨g, cap, cur, e, _⟩
  · omega
  · cases e
    exact ⟨g, rfl, rfl⟩
theorem places_length (ks : List T) : ∀ a, (places a ks).length = ks.length := by
  induction ks with
  | nil => intro a; rfl
  | cons k ks ih => intro a; simp [places, ih]
theorem wpList_append_int1 {w : World} {ops : Array Oper} {rest : List Oper} {o : Oper} {a : Act} {Q : Exit → Act → World → Prop} (hgd : o.guard = none) (s x : Operand)
    (ho : o.op = .call { callee := .builtin .append, args := #[s, x], argTypes := #[31, 31] }) (v : Value) (n : Nat) (xs : List Value) (hs : a.eval s = v) (hown : w.ownsRow 0 3 1 v n xs)
    (g : Nat) (z : Int) (hx : a.eval x = .slice (some ⟨g, 0, none⟩) 1 1) (hB : Bk w g 3 [.int .i64 z]) (hb : n ≤ 1048576)
    (h : ∀ a' n' c' w', w'.ownsRow 0 3 1 (.slice a' n' c') (n + 1) (xs ++ [.int .i64 z]) → w.grownBy w' v.ownBlock → ((Value.slice a' n' c').ownBlock = v.ownBlock ∨ (Value.slice a' n' c').ownBlock = some w.heap.size) → wpList Tryd.prog ops Q rest (a.put o.dst (.slice a' n' c')) w') : wpList Tryd.prog ops Q (o :: rest) a w := by
  obtain ⟨i, hi, hz, hsz, hby⟩ := info_of infoInt'
  refine wpList_append_row_at hgd s x 31 ho 0 3 i _ 1 8 Tryd.underlying31 hi hz hsz hby rfl (by decide) v n xs hs hown (fun _ => True) _ 1 [.int .i64 z] hx (hB.rw (Nat.le_refl _) (by omega) (fun h => by omega) _ trivial) rfl
    (by intro u hu; simp at hu; subst hu; rfl) (by unfold maxLen; omega) (by omega) (Nat.zero_le _) ?_
  intro v' w' k1 k2 k3
  obtain ⟨a', c', rfl⟩ := own_shape k1
  exact h a' _ c' w' k1 k2 k3
/-- append of one string as a step of a region that draws. -/
theorem step_append_str1 {w : World} {ops : Array Oper} {o : Oper} {a : Act} {K : Act → World → Prop} {Q : Exit → Act → World → Prop} {E : Prop} (hgd : o.guard = none) (s x : Operand)
    (ho : o.op = .call { callee := .builtin .append, args := #[s, x], argTypes := #[67, 67] }) (v : Value) (n : Nat) (xs : List Value) (hs : a.eval s = v) (hown : w.ownsRow 0 9 1 v n xs)
    (g : Nat) (z : ByteArray) (hx : a.eval x = .slice (some ⟨g, 0, none⟩) 1 1) (hB : w.cell? ⟨g, 0, none⟩ = some (.string z)) (hb : n ≤ 1048576) (b0 o0 : Nat) (x0 : Value) (hc0 : w.cell? ⟨b0, o0, none⟩ = some x0) (hf0 : w.frozen? ⟨b0, o0, none⟩ = false) (hne : v.ownBlock ≠ some b0)
    (h : ∀ a' n' c' w', w'.ownsRow 0 9 1 (.slice a' n' c') (n + 1) (xs ++ [.string z]) → w.grownBy w' v.ownBlock → ((Value.slice a' n' c').ownBlock = v.ownBlock ∨ (Value.slice a' n' c').ownBlock = some w.heap.size) → w'.cell? ⟨b0, o0, none⟩ = some x0 → w'.frozen? ⟨b0, o0, none⟩ = false → K (a.put o.dst (.slice a' n' c')) w') :
    if Region.wanted o (yielded ops a.tmps) = true then Oper.wp Tryd.prog o a w K Q else E := by
  have hw : Region.wanted o (yielded ops a.tmps) = true := by simp [Region.wanted, hgd]
  rw [if_pos hw]
  obtain ⟨i, hi, hz, hsz, hby⟩ := info_of infoStr'
  have hsrc : Rw w (fun _ => True) (.slice (some ⟨g, 0, none⟩) 1 1) 1 [.string z] := by
    refine ⟨_, 1, rfl, Nat.le_refl _, by omega, fun h => by omega, fun h => (by cases h), fun _ => ⟨g, 0, rfl, block_lt hB, trivial, fun j u hu => ?_⟩⟩
    cases j with
    | zero => simp at hu; subst hu; simpa using hB
    | succ j => simp at hu
  obtain ⟨v', w', hr, h2, h3, h5⟩ := run_append_row_at (P := Tryd.prog) (w := w) 0 67 o.type 9 i _ 1 16 Tryd.underlying67 hi hz hsz hby rfl (by decide) v n xs hown (fun _ => True) _ 1 [.string z] hsrc rfl (by intro u hu; simp at hu; subst hu; rfl) (by unfold maxLen; omega) (by omega) (Nat.zero_le _)
  obtain ⟨a', c', rfl⟩ := own_shape h2
  have hbl := h3.block b0 (block_lt hc0) (fun e => hne e.symm)
  unfold Oper.wp execOp
  simp only [ho, resolve, invoke, builtin, Sem.run_bind, Sem.run_pure, Result.andThen_ok, List.map_toArray, List.map_cons, List.map_nil, hs, hx, hr]
  exact h a' _ c' w' h2 h3 h5 ((World.cell?_of_block (w := w) (a := ⟨b0, o0, none⟩) hbl).trans hc0) ((World.frozen?_of_block (w := w) (a := ⟨b0, o0, none⟩) hbl).trans hf0)
/-- Cells that are kept, R alone of the blocks having turned. -/
structure KO (R : Nat → Prop) (u v : World) (cs : List (Addr × Value)) : Prop where
  cells : ∀ p ∈ cs, u.cell? p.1 = some p.2 ∧ ¬ R p.1.block
  only : Only R u v
theorem KO.at {R : Nat → Prop} {u v : World} {cs : List (Addr × Value)} (h : KO R u v cs) {a : Addr} {x : Value} (hp : (a, x) ∈ cs) : v.cell? a = some x := by
  obtain ⟨hc, hr⟩ := h.cells (a, x) hp
  exact (World.cell?_of_block (w := u) (h.only.block a.block (block_lt hc) hr)).trans hc
theorem ko4 {R : Nat → Prop} {u v : World} {a0 a1 a2 a3 : Addr} {x0 x1 x2 x3 : Value} (h : KO R u v [(a0, x0), (a1, x1), (a2, x2), (a3, x3)]) : v.cell? a0 = some x0 ∧ v.cell? a1 = some x1 ∧ v.cell? a2 = some x2 ∧ v.cell? a3 = some x3 ∧ KO R u v [(a0, x0), (a1, x1), (a2, x2), (a3, x3)] := ⟨h.at (by simp), h.at (by simp), h.at (by simp), h.at (by simp), h⟩
theorem ko4o {R : Nat → Prop} {u v v' : World} {a0 a1 a2 a3 : Addr} {x0 x1 x2 x3 : Value} (k : Only R v v') (h : v.cell? a0 = some x0 ∧ v.cell? a1 = some x1 ∧ v.cell? a2 = some x2 ∧ v.cell? a3 = some x3 ∧ KO R u v [(a0, x0), (a1, x1), (a2, x2), (a3, x3)]) : v'.cell? a0 = some x0 ∧ v'.cell? a1 = some x1 ∧ v'.cell? a2 = some x2 ∧ v'.cell? a3 = some x3 ∧ KO R u v' [(a0, x0), (a1, x1), (a2, x2), (a3, x3)] :=
  ko4 ⟨h.2.2.2.2.cells, h.2.2.2.2.only.trans k⟩
theorem szL_take (ks : List T) (k : Nat) (h : k < ks.length) : szL (ks.take (k + 1)) = szL (ks.take k) + (tAt ks k).size := by
  induction ks generalizing k with
  | nil => simp at h
  | cons x ks ih =>
    cases k with
    | zero => simp [szL, tAt]
    | succ k =>
      have := ih k (by simpa using h)
      simp only [List.take_succ_cons, szL, this, Nat.add_assoc]
      rfl
theorem layL_take (ks : List T) (k a : Nat) (h : k < ks.length) : layL a (ks.take (k + 1)) = layL a (ks.take k) ++ lay (a + szL (ks.take k)) (tAt ks k) := by
  induction ks generalizing k a with
  | nil => simp at h
  | cons x ks ih =>
    cases k with
    | zero => simp [layL, tAt, szL]
    | succ k =>
      have := ih k (a + x.size) (by simpa using h)
      simp only [List.take_succ_cons, layL, this, List.append_assoc, szL, Nat.add_assoc]
      rfl
theorem places_take (ks : List T) (k a : Nat) (h : k < ks.length) : places a (ks.take (k + 1)) = places a (ks.take k) ++ [((a + szL (ks.take k) : Nat) : Int)] := by
  induction ks generalizing k a with
  | nil => simp at h
  | cons x ks ih =>
    cases k with
    | zero => simp [places, szL]
    | succ k =>
      have := ih k (a + x.size) (by simpa using h)
      simp only [List.take_succ_cons, places, this, List.cons_append, szL, Nat.add_assoc]
theorem keys_take (ks : List T) (k : Nat) (h : k + 1 < ks.length) : (ks.take (k + 1 + 1)).tail.map T.least = (ks.take (k + 1)).tail.map T.least ++ [(tAt ks (k + 1)).least] := by
  cases ks with
  | nil => simp at h
  | cons x ks =>
    simp only [List.take_succ_cons, List.tail_cons]
    have hk : k < ks.length := by simpa using h
    have e : ks.take (k + 1) = ks.take k ++ [tAt (x :: ks) (k + 1)] := by
      rw [List.take_succ_eq_append_getElem hk]
      simp [tAt, hk]
    rw [e, List.map_append]
    rfl
theorem szL_take_le (ks : List T) (k : Nat) : szL (ks.take k) ≤ szL ks := by
  induction ks generalizing k with
  | nil => simp [szL]
  | cons x ks ih =>
    cases k with
    | zero => simp [szL]
    | succ k =>
      have := ih k
      simp only [List.take_succ_cons, szL]
      omega
theorem ncs_set0 (V : List V3) (x : Value) : ∀ j, j < V.length → ncs (V.set j (x, (vAt V j).2)) = (ncs V).set (j * 3) x := by
  induction V with
  | nil => intro j h; exact absurd h (Nat.not_lt_zero _)
  | cons q V ih =>
    intro j h
    cases j with
    | zero => rfl
    | succ j =>
      have := ih j (by simpa using h)
      rw [show (j + 1) * 3 = j * 3 + 3 by omega]
      show q.1 :: q.2.1 :: q.2.2 :: ncs (V.set j (x, (vAt V j).2)) = _
      rw [this]
      rfl
/-- What a store of one cell of a node does. -/
theorem NO.put0 {w : World} {F G : Nat → Prop} {ms l : List NB} {z : NB} {g n c : Nat} {pv : Value} {ps : List PB} (h' : NO w G (.slice (some ⟨g, 0, none⟩) n c) (ms ++ z :: l)) (hGF : ∀ y, G y → F y) (h4 : ∀ y, F y → y < w.heap.size ∧ (Value.slice (some ⟨g, 0, none⟩) n c).ownBlock ≠ some y) (hp : w.ownsRow 0 91 2 pv ps.length (pcs ps)) (hpf : ∀ y, pv.ownBlock = some y → F y ∧ ¬ G y) :
    NO (w.setCell ⟨g, ms.length * 3, none⟩ pv) F (.slice (some ⟨g, 0, none⟩) n c) (ms ++ ⟨ps, z.keys, z.kids⟩ :: l) := by
  obtain ⟨V, h1, h2, h3', _, h5⟩ := h'
  have h3 := fun i hi => (h3' i hi).mono (R := F) (fun y hy _ => hGF y hy)
  have hgb : (Value.slice (some ⟨g, 0, none⟩) n c).ownBlock = some g := rfl
  have o : Only (fun y => y = g) w (w.setCell ⟨g, ms.length * 3, none⟩ pv) := only_set (R := fun y => y = g) rfl _
  have hF : ∀ y, F y → ¬ y = g := fun y hy e => (h4 y hy).2 (by rw [hgb, e])
  have hl : ms.length < (ms ++ z :: l).length := by simp
  have hl2 : (ms ++ (⟨ps, z.keys, z.kids⟩ : NB) :: l).length = (ms ++ z :: l).length := by simp
  have hn := h3 ms.length hl
  rw [nAt_append_at] at hn
  refine ⟨V.set ms.length (pv, (vAt V ms.length).2), by rw [List.length_set, h1, hl2], ?_, fun i hi => ?_, fun y hy => ⟨Nat.lt_of_lt_of_le (h4 y hy).1 o.size, (h4 y hy).2⟩, fun i j hi hj hij y hy hz => ?_⟩
  · rw [ncs_set0 _ _ _ (by omega), hl2]
    obtain ⟨k1, k2⟩ := h2
    rcases k2 with ⟨k2, _⟩ | ⟨g', cap, cur, e, k3, k4, k5, k6, k7, k8⟩
    · cases k2
    · cases e
      refine ⟨by simpa using k1, .inr ⟨g, c, cur.setIfInBounds (ms.length * 3) pv, rfl, k3, ?_, k5, k6, by simpa using k7, ?_⟩⟩
      · simp [World.setCell, Array.getElem?_modify, k4]
      · rw [← k8]
        simp only [Array.toList_setIfInBounds, List.take_set]
  · by_cases e : i = ms.length
    · subst e
      rw [vAt_set _ _ _ (by omega), nAt_append_at]
      have hN' := hn.to o (fun y hy _ => hF y hy)
      have hG' : ∀ y, bl (vAt V ms.length) y → G y := (h3' ms.length hl).2.2.2
      have hown : OwN (w.setCell ⟨g, ms.length * 3, none⟩ pv) (pv, (vAt V ms.length).2) ⟨ps, z.keys, z.kids⟩ := ⟨own_kept hp o (fun y hy e => hF y (hpf y hy).1 e), hN'.2.1.2⟩
      have hbl : ∀ y, bl (pv, (vAt V ms.length).2) y → F y := by
        rintro y (e | e)
        · exact (hpf y e).1
        · exact hGF y (hG' y (.inr e))
      refine ⟨hown.n1 hbl, hown, fun y => ⟨fun e => ⟨fun d => (hpf y e).2 (hG' y (.inr (.inl d))), fun d => (hpf y e).2 (hG' y (.inr (.inr d)))⟩, (hN'.2.2.1 y).2⟩, hbl⟩
    · rw [vAt_other _ _ _ _ e]
      have : nAt (ms ++ (⟨ps, z.keys, z.kids⟩ : NB) :: l) i = nAt (ms ++ z :: l) i := by
        by_cases hi2 : i < ms.length
        · rw [nAt_append_left hi2, nAt_append_left hi2]
        · obtain ⟨j, rfl⟩ : ∃ j, i = ms.length + 1 + j := ⟨i - ms.length - 1, by omega⟩
          simp only [nAt]
          rw [List.getElem?_append_right (by omega), List.getElem?_append_right (by omega), show ms.length + 1 + j - ms.length = j + 1 by omega]
          rfl
      rw [this]
      exact (h3 i (by omega)).to o (fun y hy _ => hF y hy)
  · rw [hl2] at hi hj
    have hot : ∀ k, k < (ms ++ z :: l).length → k ≠ ms.length → ∀ y, bl (pv, (vAt V ms.length).2) y → ¬ bl (vAt V k) y := by
      rintro k hk hne y (e | e) d
      · exact (hpf y e).2 ((h3' k hk).2.2.2 y d)
      · exact h5 ms.length k hl hk (Ne.symm hne) y (.inr e) d
    by_cases e : i = ms.length
    · subst e
      rw [vAt_set _ _ _ (by omega)] at hy
      rw [vAt_other _ _ _ _ (Ne.symm hij)] at hz
      exact hot j hj (Ne.symm hij) y hy hz
    · rw [vAt_other _ _ _ _ e] at hy
      by_cases d : j = ms.length
      · subst d
        rw [vAt_set _ _ _ (by omega)] at hz
        exact hot i hi e y hz hy
      · rw [vAt_other _ _ _ _ d] at hz
        exact h5 i j hi hj hij y hy hz
theorem NO.cells {w : World} {F : Nat → Prop} {g n c : Nat} {ns : List NB} (h : NO w F (.slice (some ⟨g, 0, none⟩) n c) ns) (i : Nat) (hi : i < ns.length) : (∃ x0 x1 x2, w.cell? ⟨g, i * 3, none⟩ = some x0 ∧ w.cell? ⟨g, i * 3 + 1, none⟩ = some x1 ∧ w.cell? ⟨g, i * 3 + 2, none⟩ = some x2) ∧ ∀ o, w.frozen? ⟨g, o, none⟩ = false := by
  obtain ⟨V, h1, h2, h3, h4, _⟩ := h
  have hc := World.ownsRow.cells h2 (g := g) rfl
  obtain ⟨c0, c1, c2⟩ := ncs_at V i (by omega)
  have d0 := hc _ _ c0
  have d1 := hc _ _ c1
  have d2 := hc _ _ c2
  rw [Addr.add_lit, Nat.zero_add] at d0 d1 d2
  refine ⟨⟨_, _, _, d0, d1, d2⟩, fun o => ?_⟩
  rcases h2.2 with ⟨e, _⟩ | ⟨g', cap, cur, e, _, k4, _⟩
  · cases e
  · cases e
    simp [World.frozen?, k4]
end Go.Proofs.YtcpdedpgjaimkaaDoor
/-
  slices.Insert of one element into a row of its own (pairs).
-/
namespace Go.Proofs.YtcpdedpgjaimkaaDoor
open Go.RowKit
/-- What comes of an insertion: a row of its own with the element; of what was there only the old row may have turned. -/
def InsPost (E : TypeId) (size base : Nat) (xs : List Value) (n : Nat) (v : Value) (w : World) (e : Ending) (w' : World) : Prop :=
  ∃ a c, e = .returned (.slice a n c) ∧ w'.ownsRow base E size (.slice a n c) n xs ∧ w.grownBy w' v.ownBlock ∧ ((Value.slice a n c).ownBlock = v.ownBlock ∨ ∃ k, (Value.slice a n c).ownBlock = some k ∧ w.heap.size ≤ k)
theorem grown_only {w w' : World} {o : Option Nat} (h : Only (fun y => o = some y) w w') : w.grownBy w' o := ⟨h.os, h.tape, h.output, h.size, fun k hk hne => h.block k hk (fun e => hne e.symm)⟩
end Go.Proofs.YtcpdedpgjaimkaaDoor
/-
  slices.Insert of one element into a row of its own (limbs).
-/
namespace Go.Proofs.YtcpdedpgjaimkaaDoor
open Go.RowKit
end Go.Proofs.YtcpdedpgjaimkaaDoor
/-
  slices.Grow of nil, slices.Concat of two (pairs).
-/
namespace Go.Proofs.YtcpdedpgjaimkaaDoor
open Go.RowKit
/-- What is made newly: a row of its own, beside all that was there. -/
def NewPost (E : TypeId) (size n : Nat) (xs : List Value) (w : World) (e : Ending) (w' : World) : Prop := ∃ a c, e = .returned (.slice a n c) ∧ w'.ownsRow w.heap.size E size (.slice a n c) n xs ∧ Below w.heap.size w w'
end Go.Proofs.YtcpdedpgjaimkaaDoor
/-
  slices.Grow of nil, slices.Concat of two (limbs).
-/
namespace Go.Proofs.YtcpdedpgjaimkaaDoor
open Go.RowKit

end Go.Proofs.YtcpdedpgjaimkaaDoor
/-
  slices.Clone, share (pairs).
-/
namespace Go.Proofs.YtcpdedpgjaimkaaDoor
open Go.RowKit
def cutN (n : Nat) : Nat := if n ≤ 4 then n else 3
/-- What comes of sharing out: two rows of their own, made newly, apart from each other. -/
def SharePost (E : TypeId) (size n : Nat) (xs : List Value) (w : World) (e : Ending) (w' : World) : Prop :=
  ∃ a m c a' m' c', e = .returned (.tuple #[.slice a m c, .slice a' m' c']) ∧ m = cutN n ∧ m' = n - cutN n ∧ w'.ownsRow w.heap.size E size (.slice a m c) m (xs.take (m * size)) ∧ w'.ownsRow w.heap.size E size (.slice a' m' c') m' (xs.drop (m * size)) ∧
    (∀ x, (Value.slice a m c).ownBlock = some x → (Value.slice a' m' c').ownBlock ≠ some x) ∧ Below w.heap.size w w'
end Go.Proofs.YtcpdedpgjaimkaaDoor
/-
  slices.Clone, share (limbs).
-/
namespace Go.Proofs.YtcpdedpgjaimkaaDoor
open Go.RowKit

end Go.Proofs.YtcpdedpgjaimkaaDoor
/-
  Looking a key up: in a list of pairs that ascend, in a tree. Nothing here speaks of the program.
-/
namespace Go.Proofs.YtcpdedpgjaimkaaDoor
open Go.RowKit
def klt (a b : ByteArray) : Bool := Op.bytesLess a.toList b.toList
theorem klt_irrefl (a : ByteArray) : klt a a = false := less_irrefl _
theorem klt_trans {a b c : ByteArray} (h : klt a b = true) (k : klt b c = true) : klt a c = true := less_trans _ _ _ h k
theorem klt_ne {a b : ByteArray} (h : klt a b = true) : a ≠ b := by
  rintro rfl
  rw [klt_irrefl] at h
  cases h
theorem klt_asymm {a b : ByteArray} (h : klt a b = true) : klt b a = false := less_asymm _ _ h
def Asc (l : List PB) : Prop := l.Pairwise fun p q => klt p.1 q.1 = true
theorem pOkF_adj (l : List PB) : ∀ (f k : Nat), pOkF l f k = true → ∀ i, k ≤ i → i < k + f → i ≠ 0 → klt (pAtB l (i - 1)).1 (pAtB l i).1 = true
  | 0, k, _, i, h1, h2, _ => by omega
  | f + 1, k, h, i, h1, h2, h3 => by
    simp only [pOkF, Bool.and_eq_true] at h
    by_cases e : i = k
    · subst e
      have := h.1.2
      simp [h3] at this
      exact this
    · exact pOkF_adj l f (k + 1) h.2 i (by omega) (by omega) h3
theorem pAtB_lt {l : List PB} {i : Nat} (h : i < l.length) : pAtB l i = l[i] := by simp [pAtB, h]
theorem pOk_asc {l : List PB} (h : pOk l = true) : Asc l := by
  simp only [pOk, Bool.and_eq_true] at h
  have adj : ∀ i, i + 1 < l.length → klt (pAtB l i).1 (pAtB l (i + 1)).1 = true := fun i hi => pOkF_adj l _ 0 h.2 (i + 1) (by omega) (by omega) (by omega)
  have far : ∀ d i, i + d + 1 < l.length → klt (pAtB l i).1 (pAtB l (i + d + 1)).1 = true := by
    intro d
    induction d with
    | zero => exact adj
    | succ d ih => exact fun i hi => klt_trans (ih i (by omega)) (adj _ (by omega))
  refine List.pairwise_iff_getElem.2 fun i j hi hj hij => ?_
  have := far (j - i - 1) i (by omega)
  rw [show i + (j - i - 1) + 1 = j by omega, pAtB_lt hi, pAtB_lt hj] at this
  exact this
theorem Asc.at {l : List PB} (h : Asc l) {i j : Nat} (hij : i < j) (hj : j < l.length) : klt (pAtB l i).1 (pAtB l j).1 = true := by
  have := List.pairwise_iff_getElem.1 h i j (by omega) hj hij
  rw [pAtB_lt (by omega), pAtB_lt hj]
  exact this
/-- The value beside the first pair with the key. -/
def fnd (l : List PB) (k : ByteArray) : Option ByteArray := l.findSome? fun p => if p.1 = k then some p.2 else none
theorem fnd_append (l m : List PB) (k : ByteArray) : fnd (l ++ m) k = (fnd l k).or (fnd m k) := List.findSome?_append
theorem fnd_none {l : List PB} {k : ByteArray} (h : ∀ p ∈ l, p.1 ≠ k) : fnd l k = none := by
  rw [fnd, List.findSome?_eq_none_iff]
  intro p hp
  simp [h p hp]
theorem fnd_at : ∀ (l : List PB) (k : ByteArray) (i : Nat), i < l.length → (pAtB l i).1 = k → (∀ a, a < i → (pAtB l a).1 ≠ k) → fnd l k = some (pAtB l i).2
  | [], _, _, h, _, _ => by simp at h
  | p :: l, k, 0, _, hk, _ => by
    have : p.1 = k := hk
    simp [fnd, this, pAtB]
  | p :: l, k, i + 1, h, hk, hl => by
    have h0 : p.1 ≠ k := hl 0 (by omega)
    have := fnd_at l k i (by simpa using h) hk (fun a ha => hl (a + 1) (by omega))
    rw [fnd, List.findSome?_cons]
    simp only [h0, if_false]
    exact this
theorem allL_append (a b : List T) : allL (a ++ b) = allL a ++ allL b := by
  induction a with
  | nil => rfl
  | cons k a ih => simp only [List.cons_append, allL, ih, List.append_assoc]
theorem tAt_lt {ks : List T} {i : Nat} (h : i < ks.length) : tAt ks i = ks[i] := by simp [tAt, h]
theorem ks_split {ks : List T} {q : Nat} (h : q < ks.length) : ks = ks.take q ++ tAt ks q :: ks.drop (q + 1) := by
  rw [tAt_lt h, List.getElem_cons_drop h, List.take_append_drop]
theorem all_split {ks : List T} {q : Nat} (h : q < ks.length) : allL ks = allL (ks.take q) ++ ((tAt ks q).all ++ allL (ks.drop (q + 1))) := by
  have := congrArg allL (ks_split h)
  rwa [allL_append, allL] at this
theorem full_head (t : T) : ∀ r, t.full r = true → ∃ v rest, t.all = (t.least, v) :: rest := by
  induction t using T.ind
  rename_i ps ks ih
  intro r hf
  cases ks with
  | nil =>
    have := full_lf hf
    cases ps with
    | nil => simp at this
    | cons p ps => exact ⟨p.2, ps, by simp [T.all, allL, T.least]⟩
  | cons k ks =>
    obtain ⟨_, _, rfl, h3⟩ := full_br hf (by simp)
    obtain ⟨v, rest, e⟩ := ih k (by simp) false (h3 k (by simp))
    exact ⟨v, rest ++ allL ks, by simp [T.all, allL, T.least, e]⟩
def kidF (ks : List T) (k : ByteArray) : Nat → Nat → Nat
  | 0, p => p
  | f + 1, p => if p + 1 < ks.length ∧ klt k (tAt ks (p + 1)).least = false then kidF ks k f (p + 1) else p
/-- The place of the kid that a key leads to. -/
def kidOf (ks : List T) (k : ByteArray) : Nat := kidF ks k ks.length 0
theorem kidF_spec (ks : List T) (k : ByteArray) : ∀ f p, p < ks.length → ks.length ≤ p + 1 + f → (p = 0 ∨ klt k (tAt ks p).least = false) →
    kidF ks k f p < ks.length ∧ (kidF ks k f p = 0 ∨ klt k (tAt ks (kidF ks k f p)).least = false) ∧ (kidF ks k f p + 1 < ks.length → klt k (tAt ks (kidF ks k f p + 1)).least = true)
  | 0, p, h1, h2, h3 => ⟨h1, h3, fun h => by simp only [kidF] at h; omega⟩
  | f + 1, p, h1, h2, h3 => by
    rw [kidF]
    by_cases hc : p + 1 < ks.length ∧ klt k (tAt ks (p + 1)).least = false
    · rw [if_pos hc]
      exact kidF_spec ks k f (p + 1) hc.1 (by omega) (.inr hc.2)
    · rw [if_neg hc]
      refine ⟨h1, h3, fun h => ?_⟩
      cases hk : klt k (tAt ks (p + 1)).least with
      | true => rfl
      | false => exact absurd ⟨h, hk⟩ hc
theorem kidOf_spec {ks : List T} (k : ByteArray) (h : ks ≠ []) : kidOf ks k < ks.length ∧ (kidOf ks k = 0 ∨ klt k (tAt ks (kidOf ks k)).least = false) ∧ (kidOf ks k + 1 < ks.length → klt k (tAt ks (kidOf ks k + 1)).least = true) :=
  kidF_spec ks k ks.length 0 (List.length_pos_iff.2 h) (by omega) (.inl rfl)
theorem asc_head {p : PB} {l : List PB} (h : Asc (p :: l)) {x : PB} (hx : x ∈ p :: l) : x = p ∨ klt p.1 x.1 = true := by
  rcases List.mem_cons.1 hx with rfl | hx
  · exact .inl rfl
  · exact .inr ((List.pairwise_cons.1 h).1 x hx)
/-- What lies ahead of the kid is less than the key, what lies behind it greater. -/
theorem kid_apart {ks : List T} {k : ByteArray} (hf : ∀ x ∈ ks, x.full false = true) (ha : Asc (allL ks)) {q : Nat} (h1 : q < ks.length) (h2 : q = 0 ∨ klt k (tAt ks q).least = false) (h3 : q + 1 < ks.length → klt k (tAt ks (q + 1)).least = true) :
    (∀ x ∈ allL (ks.take q), klt x.1 k = true) ∧ (∀ x ∈ allL (ks.drop (q + 1)), klt k x.1 = true) ∧ Asc (tAt ks q).all := by
  rw [all_split h1] at ha
  obtain ⟨_, hb, hab⟩ := List.pairwise_append.1 ha
  obtain ⟨hc, hd, hcd⟩ := List.pairwise_append.1 hb
  refine ⟨fun x hx => ?_, fun x hx => ?_, hc⟩
  · rcases h2 with rfl | h2
    · simp [allL] at hx
    · obtain ⟨v, rest, e⟩ := full_head _ _ (hf _ (tAt_mem h1))
      have hlt := hab x hx ((tAt ks q).least, v) (by rw [e]; simp)
      exact less_nless _ _ _ hlt h2
  · by_cases hq : q + 1 < ks.length
    · have hs : ks.drop (q + 1) = tAt ks (q + 1) :: ks.drop (q + 1 + 1) := by rw [tAt_lt hq, List.getElem_cons_drop hq]
      rw [hs, allL] at hx hd
      obtain ⟨v, rest, e⟩ := full_head _ _ (hf _ (tAt_mem hq))
      rw [e] at hx hd
      rcases asc_head hd hx with rfl | h
      · exact h3 hq
      · exact klt_trans (h3 hq) h
    · rw [List.drop_eq_nil_of_le (by omega)] at hx
      simp [allL] at hx
theorem kid_fnd {ks : List T} {k : ByteArray} (hk : ks ≠ []) (hf : ∀ x ∈ ks, x.full false = true) (ha : Asc (allL ks)) : fnd (allL ks) k = fnd (tAt ks (kidOf ks k)).all k ∧ Asc (tAt ks (kidOf ks k)).all := by
  obtain ⟨h1, h2, h3⟩ := kidOf_spec k hk
  obtain ⟨a1, a2, a3⟩ := kid_apart hf ha h1 h2 h3
  refine ⟨?_, a3⟩
  rw [all_split h1, fnd_append, fnd_append, fnd_none (l := allL (ks.take _)) (fun p hp => klt_ne (a1 p hp)), fnd_none (l := allL (ks.drop _)) (fun p hp => (klt_ne (a2 p hp)).symm)]
  simp
/-- How many keys are less. -/
def pos : List PB → ByteArray → Nat
  | [], _ => 0
  | p :: l, k => if klt p.1 k = true then pos l k + 1 else 0
theorem pos_le : ∀ (l : List PB) (k : ByteArray), pos l k ≤ l.length
  | [], _ => Nat.le_refl _
  | p :: l, k => by
    rw [pos]
    split
    · have := pos_le l k; simp; omega
    · exact Nat.zero_le _
theorem pos_uniq : ∀ (l : List PB) (k : ByteArray) (i : Nat), i ≤ l.length → (∀ a, a < i → klt (pAtB l a).1 k = true) → (i < l.length → klt (pAtB l i).1 k = false) → i = pos l k
  | [], _, i, h, _, _ => by simp at h; subst h; rfl
  | p :: l, k, 0, _, _, h => by
    have : klt p.1 k = false := h (by simp)
    rw [pos, this]
    rfl
  | p :: l, k, i + 1, h, hl, hr => by
    have h0 : klt p.1 k = true := hl 0 (by omega)
    have := pos_uniq l k i (by simpa using h) (fun a ha => hl (a + 1) (by omega)) (fun hi => hr (by simpa using hi))
    rw [pos, h0, if_pos rfl, ← this]
theorem pos_spec : ∀ (l : List PB) (k : ByteArray), (∀ a, a < pos l k → klt (pAtB l a).1 k = true) ∧ (pos l k < l.length → klt (pAtB l (pos l k)).1 k = false)
  | [], k => ⟨fun a h => absurd h (Nat.not_lt_zero _), fun h => absurd h (Nat.not_lt_zero _)⟩
  | p :: l, k => by
    rw [pos]
    cases hk : klt p.1 k with
    | false => exact ⟨fun a h => by simp at h, fun _ => hk⟩
    | true =>
      obtain ⟨h1, h2⟩ := pos_spec l k
      simp only [if_true]
      refine ⟨fun a h => ?_, fun h => h2 (by simpa using h)⟩
      cases a with
      | zero => exact hk
      | succ a => exact h1 a (by omega)
theorem pos_fnd {l : List PB} (k : ByteArray) (ha : Asc l) : fnd l k = if pos l k < l.length ∧ (pAtB l (pos l k)).1 = k then some (pAtB l (pos l k)).2 else none := by
  obtain ⟨h1, h2⟩ := pos_spec l k
  split
  · rename_i h
    exact fnd_at l k _ h.1 h.2 (fun a hl => klt_ne (h1 a hl))
  · rename_i h
    refine fnd_none fun p hp e => ?_
    obtain ⟨i, hi, rfl⟩ := List.mem_iff_getElem.1 hp
    rw [← pAtB_lt hi] at e
    rcases Nat.lt_trichotomy i (pos l k) with hlt | heq | hgt
    · exact klt_ne (h1 i hlt) e
    · exact h ⟨by omega, by rw [← heq]; exact e⟩
    · have h3 := ha.at hgt hi
      rw [e] at h3
      rw [h2 (by omega)] at h3
      cases h3
end Go.Proofs.YtcpdedpgjaimkaaDoor
/-
  together: what two neighbours have between them is shared out anew.
-/
namespace Go.Proofs.YtcpdedpgjaimkaaDoor
open Go.RowKit
theorem ptrs_length (A : Nat → Nat) (n : Nat) : (ptrs A n).length = n := by simp [ptrs]
theorem ptrs_one (A : Nat → Nat) (n : Nat) : ∀ u ∈ ptrs A n, u.oneCell' = true := by
  intro u hu
  simp [ptrs] at hu
  obtain ⟨i, _, rfl⟩ := hu
  rfl
theorem own_set {w : World} {base : Nat} {e : TypeId} {size : Nat} {v : Value} {n : Nat} {xs : List Value} (h : w.ownsRow base e size v n xs) {b : Nat} (hb : b < base) (o : Nat) (u : Value) : (w.setCell ⟨b, o, none⟩ u).ownsRow base e size v n xs :=
  own_kept h (only_set (R := fun y => y = b) rfl u) (fun k hk e => by have := (World.ownsRow.lt h k hk).1; omega)
end Go.Proofs.YtcpdedpgjaimkaaDoor
/-
  together, of limbs.
-/
namespace Go.Proofs.YtcpdedpgjaimkaaDoor
open Go.RowKit
/-- Two neighbours' pairs and kids, shared out anew. -/
def shT (a b : T) : T × T := (.mk ((a.ps ++ b.ps).take (cutN (a.ps ++ b.ps).length)) ((a.ks ++ b.ks).take (cutN (a.ks ++ b.ks).length)), .mk ((a.ps ++ b.ps).drop (cutN (a.ps ++ b.ps).length)) ((a.ks ++ b.ks).drop (cutN (a.ks ++ b.ks).length)))
theorem pcs_take (l : List PB) : ∀ m, (pcs l).take (m * 2) = pcs (l.take m) := by
  induction l with
  | nil => intro m; simp [pcs]
  | cons p l ih =>
    intro m
    cases m with
    | zero => simp [pcs]
    | succ m => rw [show (m + 1) * 2 = m * 2 + 1 + 1 by omega, pcs, List.take_succ_cons, List.take_succ_cons, ih, List.take_succ_cons, pcs]
theorem pcs_drop (l : List PB) : ∀ m, (pcs l).drop (m * 2) = pcs (l.drop m) := by
  induction l with
  | nil => intro m; simp [pcs]
  | cons p l ih =>
    intro m
    cases m with
    | zero => simp
    | succ m => rw [show (m + 1) * 2 = m * 2 + 1 + 1 by omega, pcs, List.drop_succ_cons, List.drop_succ_cons, ih, List.drop_succ_cons]
theorem ptrs_take (A : Nat → Nat) (n m : Nat) (h : m ≤ n) : (ptrs A n).take m = ptrs A m := by
  apply List.ext_getElem
  · simp [ptrs]; omega
  · intro i h1 h2; simp [ptrs]
theorem ptrs_drop (A : Nat → Nat) (n m : Nat) : (ptrs A n).drop m = ptrs (fun i => A (m + i)) (n - m) := by
  apply List.ext_getElem
  · simp [ptrs]
  · intro i h1 h2; simp [ptrs]
theorem ptrs_app (A1 A2 : Nat → Nat) (n1 n2 : Nat) : ptrs A1 n1 ++ ptrs A2 n2 = ptrs (fun i => if i < n1 then A1 i else A2 (i - n1)) (n1 + n2) := by
  apply List.ext_getElem
  · simp [ptrs]
  · intro i h1 h2
    by_cases hi : i < n1
    · rw [List.getElem_append_left (by simpa [ptrs] using hi)]; simp [ptrs, hi]
    · rw [List.getElem_append_right (by simpa [ptrs] using hi)]; simp [ptrs, hi]
theorem cutN_le (n : Nat) : cutN n ≤ n := by unfold cutN; split <;> omega
theorem tAt_take {ks : List T} {m i : Nat} (h : i < m) : tAt (ks.take m) i = tAt ks i := by simp [tAt, h]
theorem tAt_drop {ks : List T} {m i : Nat} : tAt (ks.drop m) i = tAt ks (m + i) := by simp [tAt]
theorem tAt_app1 {ks ls : List T} {i : Nat} (h : i < ks.length) : tAt (ks ++ ls) i = tAt ks i := by simp [tAt, List.getElem?_append_left h]
theorem tAt_app2 {ks ls : List T} {i : Nat} (h : ks.length ≤ i) : tAt (ks ++ ls) i = tAt ls (i - ks.length) := by simp [tAt, List.getElem?_append_right h]
end Go.Proofs.YtcpdedpgjaimkaaDoor
/-
  strings.Compare, and slices.BinarySearchFunc over pairs that ascend.
-/
namespace Go.Proofs.YtcpdedpgjaimkaaDoor
open Go.RowKit
def cmpV (a b : ByteArray) : Int := Lib.compareBytes a.data.toList b.data.toList
theorem cmpL_cases : ∀ (a b : List UInt8), (Op.bytesLess a b = true ∧ Lib.compareBytes a b = -1) ∨ (a = b ∧ Lib.compareBytes a b = 0) ∨ (Op.bytesLess b a = true ∧ Lib.compareBytes a b = 1)
  | [], [] => .inr (.inl ⟨rfl, rfl⟩)
  | [], _ :: _ => .inl ⟨rfl, rfl⟩
  | _ :: _, [] => .inr (.inr ⟨rfl, rfl⟩)
  | x :: a, y :: b => by
    simp only [Op.bytesLess, Lib.compareBytes]
    by_cases h1 : x < y
    · exact .inl ⟨by simp [h1], by simp [h1]⟩
    · by_cases h2 : y < x
      · exact .inr (.inr ⟨by simp [h2], by simp [h1, h2]⟩)
      · have e : x = y := UInt8.le_antisymm (UInt8.not_lt.1 h2) (UInt8.not_lt.1 h1)
        subst e
        simp only [h1, if_false, decide_false, Bool.false_or, beq_self_eq_true, Bool.true_and]
        rcases cmpL_cases a b with h | ⟨rfl, h⟩ | h
        · exact .inl h
        · exact .inr (.inl ⟨rfl, h⟩)
        · exact .inr (.inr h)
theorem cmpV_cases (a b : ByteArray) : (klt a b = true ∧ cmpV a b = -1) ∨ (a = b ∧ cmpV a b = 0) ∨ (klt a b = false ∧ a ≠ b ∧ cmpV a b = 1) := by
  unfold klt cmpV
  rw [ByteArray.toList_eq, ByteArray.toList_eq]
  rcases cmpL_cases a.data.toList b.data.toList with h | ⟨h1, h2⟩ | ⟨h1, h2⟩
  · exact .inl h
  · exact .inr (.inl ⟨str_ext (by rw [ByteArray.toList_eq, ByteArray.toList_eq]; exact h1), h2⟩)
  · refine .inr (.inr ⟨less_asymm _ _ h1, ?_, h2⟩)
    rintro rfl
    rw [less_irrefl] at h1
    cases h1
end Go.Proofs.YtcpdedpgjaimkaaDoor
/-
  slices.BinarySearchFunc over pairs that ascend; pairFor: the place of a key in a leaf.
-/
namespace Go.Proofs.YtcpdedpgjaimkaaDoor
open Go.RowKit
theorem Pr.cells {w : World} {S : Nat → Prop} {b off n c : Nat} {l : List PB} (h : Pr w S (.slice (some ⟨b, off, none⟩) n c) l) {i : Nat} (hi : i < l.length) : w.cell? ⟨b, off + i * 2, none⟩ = some (.string (pAtB l i).1) ∧ w.cell? ⟨b, off + i * 2 + 1, none⟩ = some (.string (pAtB l i).2) := by
  have hn := (Rw.len h).1
  obtain ⟨b', off', e, _, _, hc⟩ := Rw.at h (by omega)
  cases e
  obtain ⟨h1, h2⟩ := pcs_at l i hi
  exact ⟨hc _ _ h1, hc _ _ h2⟩
def there (l : List PB) (k : ByteArray) : Bool := decide (pos l k < l.length ∧ (pAtB l (pos l k)).1 = k)
end Go.Proofs.YtcpdedpgjaimkaaDoor
/-
  putPair: a pair comes into a leaf.
-/
namespace Go.Proofs.YtcpdedpgjaimkaaDoor
open Go.RowKit
/-- A list with the pair, at its key's place. -/
def insP (l : List PB) (p : PB) : List PB := if there l p.1 = true then l.set (pos l p.1) p else l.take (pos l p.1) ++ [p] ++ l.drop (pos l p.1)
theorem pcs_set1 (ps : List PB) (p : PB) (j : Nat) (hj : j < ps.length) : ((pcs ps).set (j * 2) (.string p.1)).set (j * 2 + 1) (.string p.2) = pcs (ps.set j p) := (pcs_set ps p j hj).symm
theorem bk_grown {w w' : World} {b : Nat} {T : TypeId} {xs : List Value} {o : Option Nat} (h : Bk w b T xs) (hg : w.grownBy w' o) (hne : o ≠ some b) : Bk w' b T xs := (hg.block b h.lt (fun e => hne e.symm)).trans h
theorem pcs_ins (ps : List PB) (p : Nat) (k v : ByteArray) : (pcs ps).take (p * 2) ++ [.string k, .string v] ++ (pcs ps).drop (p * 2) = pcs (ps.take p ++ [(k, v)] ++ ps.drop p) := by
  rw [pcs_take, pcs_drop, pcs_append, pcs_append]
  rfl
end Go.Proofs.YtcpdedpgjaimkaaDoor
/-
  kidFor, get: the way down to a key.
-/
namespace Go.Proofs.YtcpdedpgjaimkaaDoor
open Go.RowKit
theorem kidF_stop {ks : List T} {k : ByteArray} {f p : Nat} (h : ¬ (p + 1 < ks.length ∧ klt k (tAt ks (p + 1)).least = false)) : kidF ks k f p = p := by
  cases f with
  | zero => rfl
  | succ f => rw [kidF, if_neg h]
end Go.Proofs.YtcpdedpgjaimkaaDoor
/-
  get: what lies beside a key in a tree.
-/
namespace Go.Proofs.YtcpdedpgjaimkaaDoor
open Go.RowKit
/-- What a look-up answers. -/
def gotV : Option ByteArray → Value
  | none => .tuple #[.string ⟨#[]⟩, .bool false]
  | some v => .tuple #[.string v, .bool true]
structure GetOk (t : T) : Prop where
  asc : Asc t.all
  br : t.ks ≠ [] → t.ps = [] ∧ ∀ x ∈ t.ks, x.full false = true
  few : t.ps.length ≤ 8 ∧ t.ks.length ≤ 8
theorem full_getOk {t : T} {r : Bool} (h : t.full r = true) (ha : Asc t.all) : GetOk t := by
  obtain ⟨ps, ks⟩ := t
  by_cases hk : ks = []
  · subst hk
    exact ⟨ha, fun h => absurd rfl h, by have := full_lf h; show ps.length ≤ 8 ∧ 0 ≤ 8; omega⟩
  · have := full_br h hk
    refine ⟨ha, fun _ => this.2.2, ?_, ?_⟩
    · show ps.length ≤ 8
      rw [this.2.2.1]
      decide
    · show ks.length ≤ 8
      omega
theorem szL_mem : ∀ (ks : List T) (x : T), x ∈ ks → x.size ≤ szL ks
  | k :: ks, x, h => by
    rw [szL]
    rcases List.mem_cons.1 h with rfl | h
    · omega
    · have := szL_mem ks x h; omega
theorem kid_size {ps : List PB} {ks : List T} {x : T} (h : x ∈ ks) : x.size < (T.mk ps ks).size := by
  have := szL_mem ks x h
  rw [T.size]
  omega
end Go.Proofs.YtcpdedpgjaimkaaDoor
/-
  put: a pair comes into a tree; what one node can't hold comes newly behind it.
-/
namespace Go.Proofs.YtcpdedpgjaimkaaDoor
open Go.RowKit
def bareT : T := .mk [] []
/-- Kids, one of which has become two. -/
def insK (ks : List T) (i : Nat) (r : T × T) : List T := if r.2.bare = true then ks.set i r.1 else (ks.set i r.1).take (i + 1) ++ [r.2] ++ (ks.set i r.1).drop (i + 1)
def putF : Nat → T → PB → T × T
  | 0, t, _ => (t, bareT)
  | f + 1, t, p => if t.ks = [] then shT (.mk (insP t.ps p) t.ks) bareT else shT (.mk t.ps (insK t.ks (kidOf t.ks p.1) (putF f (tAt t.ks (kidOf t.ks p.1)) p))) bareT
theorem insP_len (l : List PB) (p : PB) : (insP l p).length ≤ l.length + 1 := by
  unfold insP
  split
  · simp
  · simp only [List.length_append, List.length_take, List.length_drop, List.length_cons, List.length_nil]; omega
theorem insK_len (ks : List T) (i : Nat) (r : T × T) : (insK ks i r).length ≤ ks.length + 1 := by
  unfold insK
  split
  · simp
  · simp only [List.length_append, List.length_take, List.length_drop, List.length_cons, List.length_nil, List.length_set]; omega
theorem shT_small (a b : T) : (shT a b).2.ps.length ≤ a.ps.length + b.ps.length ∧ (shT a b).2.ks.length ≤ a.ks.length + b.ks.length := by
  constructor
  · show ((a.ps ++ b.ps).drop _).length ≤ _
    rw [List.length_drop, List.length_append]; omega
  · show ((a.ks ++ b.ks).drop _).length ≤ _
    rw [List.length_drop, List.length_append]; omega
theorem ptrs_ins (A : Nat → Nat) (n p c : Nat) (h : p ≤ n) : (ptrs A n).take p ++ [ptr c] ++ (ptrs A n).drop p = ptrs (fun i => if i < p then A i else if i = p then c else A (i - 1)) (n + 1) := by
  apply List.ext_getElem?
  intro i
  rcases Nat.lt_trichotomy i p with hi | hi | hi
  · rw [List.append_assoc, List.getElem?_append_left (by simp [ptrs]; omega), List.getElem?_take, if_pos hi, ptrs_at _ _ _ (by omega), ptrs_at _ _ _ (by omega), if_pos hi]
  · rw [List.append_assoc, List.getElem?_append_right (by simp [ptrs]; omega), ptrs_at _ _ _ (by omega), if_neg (by omega), if_pos hi]
    have : i - (List.take p (ptrs A n)).length = 0 := by simp [ptrs]; omega
    rw [this]; rfl
  · rw [List.getElem?_append_right (by simp [ptrs]; omega), List.getElem?_drop]
    have : p + (i - (List.take p (ptrs A n) ++ [ptr c]).length) = i - 1 := by simp [ptrs]; omega
    rw [this]
    by_cases hn : i < n + 1
    · rw [ptrs_at _ _ _ (by omega), ptrs_at _ _ _ hn, if_neg (by omega), if_neg (by omega)]
    · rw [List.getElem?_eq_none (by simp [ptrs]; omega), List.getElem?_eq_none (by simp [ptrs]; omega)]
theorem tAt_ins (ks : List T) (p : Nat) (c : T) (h : p ≤ ks.length) (i : Nat) : tAt (ks.take p ++ [c] ++ ks.drop p) i = if i < p then tAt ks i else if i = p then c else tAt ks (i - 1) := by
  have hl : (ks.take p).length = p := by rw [List.length_take]; omega
  rcases Nat.lt_trichotomy i p with hi | hi | hi
  · rw [List.append_assoc, tAt_app1 (by omega), tAt_take hi, if_pos hi]
  · rw [List.append_assoc, tAt_app2 (by omega), hl, if_neg (by omega), if_pos hi, show i - p = 0 by omega]; rfl
  · rw [tAt_app2 (by rw [List.length_append, hl]; simp; omega), tAt_drop, if_neg (by omega), if_neg (by omega)]
    congr 1
    rw [List.length_append, hl]; simp; omega
end Go.Proofs.YtcpdedpgjaimkaaDoor
/-
  Putting a pair in, as plain data: the program's way and the specification's come to the same; what comes of it is full, even and in order.
-/
namespace Go.Proofs.YtcpdedpgjaimkaaDoor
open Go.RowKit
theorem key_eq {a b : ByteArray} (h : klt a b = false) (h' : klt b a = false) : a = b := by
  by_cases e : a.toList = b.toList
  · exact str_ext e
  · have := less_total _ _ h e
    rw [show Op.bytesLess b.toList a.toList = klt b a from rfl, h'] at this
    cases this
theorem there_cons_lt {x p : PB} {l : List PB} (h : klt x.1 p.1 = true) : there (x :: l) p.1 = there l p.1 ∧ pos (x :: l) p.1 = pos l p.1 + 1 := by
  have e : pos (x :: l) p.1 = pos l p.1 + 1 := by rw [pos, if_pos h]
  refine ⟨?_, e⟩
  unfold there
  rw [e]
  have h1 : (pos l p.1 + 1 < (x :: l).length) = (pos l p.1 < l.length) := by simp
  have h2 : pAtB (x :: l) (pos l p.1 + 1) = pAtB l (pos l p.1) := by simp [pAtB]
  rw [h2]
  simp only [h1]
theorem pos_cons_ge {x p : PB} {l : List PB} (h : klt x.1 p.1 = false) : pos (x :: l) p.1 = 0 := by rw [pos, h]; rfl
theorem insP_nil (p : PB) : insP [] p = [p] := by simp [insP, there, pos]
theorem insP_lt {x p : PB} {l : List PB} (h : klt x.1 p.1 = true) : insP (x :: l) p = x :: insP l p := by
  obtain ⟨h1, h2⟩ := there_cons_lt (l := l) h
  unfold insP
  rw [h1, h2]
  split <;> simp
theorem insP_eq {x p : PB} {l : List PB} (h : x.1 = p.1) : insP (x :: l) p = p :: l := by
  have h0 : klt x.1 p.1 = false := by rw [h]; exact klt_irrefl _
  have h1 := pos_cons_ge (l := l) h0
  have h2 : there (x :: l) p.1 = true := by unfold there; rw [h1]; simp [pAtB, h]
  unfold insP
  rw [h2, h1]; simp
theorem insP_gt {x p : PB} {l : List PB} (h : klt x.1 p.1 = false) (hne : x.1 ≠ p.1) : insP (x :: l) p = p :: x :: l := by
  have h1 := pos_cons_ge (l := l) h
  have h2 : there (x :: l) p.1 = false := by unfold there; rw [h1]; simp [pAtB, hne]
  unfold insP
  rw [h2, h1]; simp
theorem insP_left (A : List PB) {B : List PB} {p : PB} (h : ∀ x ∈ A, klt x.1 p.1 = true) : insP (A ++ B) p = A ++ insP B p := by
  induction A with
  | nil => rfl
  | cons a A ih => rw [List.cons_append, insP_lt (h a (by simp)), ih (fun x hx => h x (by simp [hx])), List.cons_append]
theorem insP_right (A : List PB) {B : List PB} {p : PB} (h : ∀ x ∈ B, klt p.1 x.1 = true) : insP (A ++ B) p = insP A p ++ B := by
  induction A with
  | nil =>
    rw [List.nil_append, insP_nil]
    cases B with
    | nil => rw [insP_nil]; rfl
    | cons b B =>
      have := h b (by simp)
      rw [insP_gt (klt_asymm this) (klt_ne this).symm]; rfl
  | cons a A ih =>
    rw [List.cons_append]
    cases hk : klt a.1 p.1 with
    | true => rw [insP_lt hk, insP_lt hk, ih]; rfl
    | false =>
      by_cases e : a.1 = p.1
      · rw [insP_eq e, insP_eq e]; rfl
      · rw [insP_gt hk e, insP_gt hk e]; rfl
theorem insP_mem {l : List PB} {p x : PB} (h : x ∈ insP l p) : x = p ∨ x ∈ l := by
  induction l with
  | nil => rw [insP_nil] at h; simpa using h
  | cons a l ih =>
    cases hk : klt a.1 p.1 with
    | true =>
      rw [insP_lt hk] at h
      rcases List.mem_cons.1 h with h | h
      · exact .inr (by simp [h])
      · exact (ih h).imp id (fun h => by simp [h])
    | false =>
      by_cases e : a.1 = p.1
      · rw [insP_eq e] at h
        rcases List.mem_cons.1 h with h | h
        · exact .inl h
        · exact .inr (by simp [h])
      · rw [insP_gt hk e] at h
        rcases List.mem_cons.1 h with h | h
        · exact .inl h
        · exact .inr h
theorem insP_asc {l : List PB} {p : PB} (h : Asc l) : Asc (insP l p) := by
  induction l with
  | nil => rw [insP_nil]; exact List.pairwise_singleton _ _
  | cons a l ih =>
    obtain ⟨h1, h2⟩ := List.pairwise_cons.1 h
    cases hk : klt a.1 p.1 with
    | true =>
      rw [insP_lt hk]
      refine List.pairwise_cons.2 ⟨fun x hx => ?_, ih h2⟩
      rcases insP_mem hx with rfl | hx
      · exact hk
      · exact h1 x hx
    | false =>
      by_cases e : a.1 = p.1
      · rw [insP_eq e]
        exact List.pairwise_cons.2 ⟨fun x hx => by rw [← e]; exact h1 x hx, h2⟩
      · rw [insP_gt hk e]
        have hlt : klt p.1 a.1 = true := by
          cases hq : klt p.1 a.1 with
          | true => rfl
          | false => exact absurd (key_eq hk hq) e
        refine List.pairwise_cons.2 ⟨fun x hx => ?_, h⟩
        rcases List.mem_cons.1 hx with rfl | hx
        · exact hlt
        · exact klt_trans hlt (h1 x hx)
theorem insP_pos (l : List PB) (p : PB) : l.length ≤ (insP l p).length ∧ 1 ≤ (insP l p).length := by
  induction l with
  | nil => rw [insP_nil]; simp
  | cons a l ih =>
    cases hk : klt a.1 p.1 with
    | true => rw [insP_lt hk]; simp; omega
    | false =>
      by_cases e : a.1 = p.1
      · rw [insP_eq e]; simp
      · rw [insP_gt hk e]; simp
/-- The specification's way: pair after pair. -/
def insS : List PB → PB → Bool → List PB
  | [], p, d => if d = true then [] else [p]
  | x :: l, p, d => (if d = false ∧ klt x.1 p.1 = false then [p] else []) ++ ((if x.1 = p.1 then [] else [x]) ++ insS l p (d || !klt x.1 p.1))
theorem insS_done {l : List PB} {p : PB} (h : ∀ x ∈ l, x.1 ≠ p.1) : insS l p true = l := by
  induction l with
  | nil => rfl
  | cons a l ih =>
    rw [insS, if_neg (by simp), if_neg (h a (by simp))]
    simp [ih (fun x hx => h x (by simp [hx]))]
theorem insS_eq {l : List PB} {p : PB} (h : Asc l) : insS l p false = insP l p := by
  induction l with
  | nil => rw [insP_nil]; rfl
  | cons a l ih =>
    obtain ⟨h1, h2⟩ := List.pairwise_cons.1 h
    cases hk : klt a.1 p.1 with
    | true =>
      rw [insP_lt hk, insS, if_neg (by simp [hk]), if_neg (klt_ne hk), hk, ← ih h2]; rfl
    | false =>
      by_cases e : a.1 = p.1
      · rw [insP_eq e, insS, if_pos ⟨rfl, hk⟩, if_pos e, hk]
        have := insS_done (l := l) (p := p) (fun x hx => by rw [← e]; exact (klt_ne (h1 x hx)).symm)
        simp [this]
      · have hlt : klt p.1 a.1 = true := by
          cases hq : klt p.1 a.1 with
          | true => rfl
          | false => exact absurd (key_eq hk hq) e
        rw [insP_gt hk e, insS, if_pos ⟨rfl, hk⟩, if_neg e, hk]
        have := insS_done (l := l) (p := p) (fun x hx => (klt_ne (klt_trans hlt (h1 x hx))).symm)
        simp [this]
/-- The specification's way down: the last kid whose least key isn't greater. -/
def wayF (ks : List T) (k : ByteArray) : Nat → Nat → Nat → Nat
  | 0, _, a => a
  | f + 1, i, a => if i < ks.length then wayF ks k f (i + 1) (if klt k (tAt ks i).least = false then i else a) else a
def wayOf (ks : List T) (k : ByteArray) : Nat := wayF ks k ks.length 1 0
theorem wayF_up (ks : List T) (k : ByteArray) : ∀ f i a, ks.length ≤ i + f → (∀ j, i ≤ j → j < ks.length → klt k (tAt ks j).least = true) → wayF ks k f i a = a
  | 0, i, a, _, _ => rfl
  | f + 1, i, a, h, hg => by
    rw [wayF]
    split
    · rename_i hi
      rw [hg i (Nat.le_refl _) hi]
      exact wayF_up ks k f (i + 1) a (by omega) (fun j h1 h2 => hg j (by omega) h2)
    · rfl
theorem wayF_spec (ks : List T) (k : ByteArray) (q : Nat) (hlo : ∀ j, 1 ≤ j → j ≤ q → j < ks.length → klt k (tAt ks j).least = false) (hhi : ∀ j, q < j → j < ks.length → klt k (tAt ks j).least = true) (hq : q < ks.length) : ∀ f i, 1 ≤ i → i ≤ q + 1 → ks.length ≤ i + f → wayF ks k f i (i - 1) = q
  | 0, i, h1, h2, h3 => by rw [wayF]; omega
  | f + 1, i, h1, h2, h3 => by
    by_cases e : i = q + 1
    · rw [wayF_up ks k (f + 1) i _ h3 (fun j hj hl => hhi j (by omega) hl)]; omega
    · rw [wayF, if_pos (by omega), if_pos (hlo i h1 (by omega) (by omega))]
      exact wayF_spec ks k q hlo hhi hq f (i + 1) (by omega) (by omega) (by omega)
theorem least_mem {t : T} (h : t.full false = true) : ∃ v, (t.least, v) ∈ t.all := by
  obtain ⟨v, rest, e⟩ := full_head _ _ h
  exact ⟨v, by rw [e]; simp⟩
theorem allL_mem {ks : List T} {q : Nat} (h : q < ks.length) {x : PB} (hx : x ∈ (tAt ks q).all) : x ∈ allL ks := by
  rw [all_split h]; simp [hx]
theorem leasts_asc {ks : List T} (hf : ∀ x ∈ ks, x.full false = true) (ha : Asc (allL ks)) {i j : Nat} (hij : i < j) (hj : j < ks.length) : klt (tAt ks i).least (tAt ks j).least = true := by
  have h1 : j < ks.length := hj
  rw [all_split h1] at ha
  obtain ⟨_, _, hab⟩ := List.pairwise_append.1 ha
  obtain ⟨v, hv⟩ := least_mem (hf _ (tAt_mem (show i < ks.length by omega)))
  obtain ⟨u, hu⟩ := least_mem (hf _ (tAt_mem h1))
  have e : tAt (ks.take j) i = tAt ks i := tAt_take hij
  have := allL_mem (ks := ks.take j) (q := i) (by rw [List.length_take]; omega) (by rw [e]; exact hv)
  exact hab _ this _ (List.mem_append_left _ hu)
theorem wayOf_eq {ks : List T} {k : ByteArray} (hk : ks ≠ []) (hf : ∀ x ∈ ks, x.full false = true) (ha : Asc (allL ks)) : wayOf ks k = kidOf ks k := by
  obtain ⟨h1, h2, h3⟩ := kidOf_spec k hk
  refine wayF_spec ks k (kidOf ks k) (fun j a b c => ?_) (fun j a b => ?_) h1 ks.length 1 (Nat.le_refl _) (by omega) (by omega)
  · rcases h2 with h2 | h2
    · omega
    · by_cases e : j = kidOf ks k
      · rw [e]; exact h2
      · have := leasts_asc hf ha (show j < kidOf ks k by omega) h1
        cases hq : klt k (tAt ks j).least with
        | false => rfl
        | true => rw [klt_trans hq this] at h2; cases h2
  · by_cases e : j = kidOf ks k + 1
    · rw [e]; exact h3 (by omega)
    · exact klt_trans (h3 (by omega)) (leasts_asc hf ha (show kidOf ks k + 1 < j by omega) b)
def splT (t : T) : List T := if t.ks = [] ∧ 4 < t.ps.length then [.mk (t.ps.take 3) [], .mk (t.ps.drop 3) []] else if 4 < t.ks.length then [.mk [] (t.ks.take 3), .mk [] (t.ks.drop 3)] else [t]
def putS : Nat → T → PB → List T
  | 0, t, _ => [t]
  | f + 1, t, p => if t.ks = [] then splT (.mk (insS t.ps p false) []) else splT (.mk [] (t.ks.take (wayOf t.ks p.1) ++ putS f (tAt t.ks (wayOf t.ks p.1)) p ++ t.ks.drop (wayOf t.ks p.1 + 1)))
def two (r : T × T) : List T := if r.2.bare = true then [r.1] else [r.1, r.2]
theorem bare_bareT : bareT.bare = true := rfl
theorem bare_iff {t : T} : t.bare = true ↔ t = bareT := by
  obtain ⟨ps, ks⟩ := t
  constructor
  · intro h
    have h : ps.length + ks.length = 0 := of_decide_eq_true h
    rw [List.eq_nil_of_length_eq_zero (show ps.length = 0 by omega), List.eq_nil_of_length_eq_zero (show ks.length = 0 by omega)]; rfl
  · intro h; rw [h]; rfl
theorem shT_bare (t : T) : shT t bareT = (.mk (t.ps.take (cutN t.ps.length)) (t.ks.take (cutN t.ks.length)), .mk (t.ps.drop (cutN t.ps.length)) (t.ks.drop (cutN t.ks.length))) := by
  simp [shT, bareT, T.ps, T.ks]
theorem T.eta (t : T) : T.mk t.ps t.ks = t := by cases t; rfl
theorem shT_one {t : T} (h1 : t.ps.length ≤ 4) (h2 : t.ks.length ≤ 4) : shT t bareT = (t, bareT) := by
  rw [shT_bare, show cutN t.ps.length = t.ps.length by simp [cutN, h1], show cutN t.ks.length = t.ks.length by simp [cutN, h2]]
  simp [T.eta, bareT]
theorem shT_leaf {ps : List PB} (h : 4 < ps.length) : shT (.mk ps []) bareT = (.mk (ps.take 3) [], .mk (ps.drop 3) []) := by
  rw [shT_bare]; simp only [T.ps, T.ks]
  rw [show cutN ps.length = 3 by simp [cutN]; omega]
  simp
theorem shT_branch {ks : List T} (h : 4 < ks.length) : shT (.mk [] ks) bareT = (.mk [] (ks.take 3), .mk [] (ks.drop 3)) := by
  rw [shT_bare]; simp only [T.ps, T.ks]
  rw [show cutN ks.length = 3 by simp [cutN]; omega]
  simp
/-- What is put into one node, of at most five, comes to one full node or two. -/
theorem not_bare {ps : List PB} {ks : List T} (h : 0 < ps.length + ks.length) : (T.mk ps ks).bare = false := decide_eq_false (by show ¬ (ps.length + ks.length = 0); omega)
theorem two_one (a : T) : two (a, bareT) = [a] := rfl
theorem two_two {a b : T} (h : b.bare = false) : two (a, b) = [a, b] := by unfold two; rw [h]; rfl
theorem two_leaf {ps : List PB} : two (shT (.mk ps []) bareT) = splT (.mk ps []) := by
  unfold splT
  show _ = if ([] : List T) = [] ∧ 4 < ps.length then [T.mk (ps.take 3) [], .mk (ps.drop 3) []] else if 4 < ([] : List T).length then _ else _
  by_cases h : 4 < ps.length
  · rw [shT_leaf h, if_pos ⟨rfl, h⟩, two_two (not_bare (by simp; omega))]
  · rw [shT_one (t := .mk ps []) (show ps.length ≤ 4 by omega) (show ([] : List T).length ≤ 4 by simp), two_one, if_neg (fun e => h e.2), if_neg (by simp)]
theorem two_branch {ks : List T} (hk : ks ≠ []) : two (shT (.mk [] ks) bareT) = splT (.mk [] ks) := by
  unfold splT
  show _ = if ks = [] ∧ 4 < ([] : List PB).length then _ else if 4 < ks.length then [T.mk [] (ks.take 3), T.mk [] (ks.drop 3)] else [T.mk [] ks]
  rw [if_neg (fun e => hk e.1)]
  by_cases h : 4 < ks.length
  · rw [shT_branch h, if_pos h, two_two (not_bare (by simp; omega))]
  · rw [shT_one (t := .mk [] ks) (show ([] : List PB).length ≤ 4 by simp) (show ks.length ≤ 4 by omega), two_one, if_neg h]
theorem insK_two (ks : List T) (q : Nat) (r : T × T) (h : q < ks.length) : insK ks q r = ks.take q ++ two r ++ ks.drop (q + 1) := by
  have e : ks.set q r.1 = ks.take q ++ r.1 :: ks.drop (q + 1) := List.set_eq_take_append_cons_drop.trans (by rw [if_pos h])
  have hl : (ks.take q).length = q := by rw [List.length_take]; omega
  unfold insK two
  split
  · rw [e]; simp
  · rw [e]
    have e1 : (ks.take q ++ r.1 :: ks.drop (q + 1)).take (q + 1) = ks.take q ++ [r.1] := by
      rw [List.take_append, hl, List.take_of_length_le (by omega)]; simp [show q + 1 - q = 1 by omega]
    have e2 : (ks.take q ++ r.1 :: ks.drop (q + 1)).drop (q + 1) = ks.drop (q + 1) := by
      rw [List.drop_append, hl, List.drop_of_length_le (by omega)]; simp [show q + 1 - q = 1 by omega]
    rw [e1, e2]; simp
/-- A tree that may be put into: even, full but for a root, in order. -/
structure PutIn (h : Nat) (r : Bool) (t : T) : Prop where
  ev : Ev h t
  full : t.full r = true ∨ (r = true ∧ t = bareT)
  asc : Asc t.all
theorem PutIn.kids {h : Nat} {r : Bool} {ps : List PB} {ks : List T} (g : PutIn (h + 1) r (.mk ps ks)) (hk : ks ≠ []) : ps = [] ∧ 2 ≤ ks.length ∧ ks.length ≤ 4 ∧ (∀ x ∈ ks, x.full false = true) ∧ (∀ x ∈ ks, Ev h x) ∧ Asc (allL ks) := by
  rcases g.full with hf | ⟨_, e⟩
  · obtain ⟨h1, h2, rfl, h3⟩ := full_br hf hk
    rcases g.ev with ⟨e, _⟩ | ⟨_, e⟩
    · exact absurd e hk
    · exact ⟨rfl, h1, h2, h3, e, by simpa [T.all] using g.asc⟩
  · cases e; exact absurd rfl hk
theorem PutIn.kid {h : Nat} {r : Bool} {ps : List PB} {ks : List T} (g : PutIn (h + 1) r (.mk ps ks)) (hk : ks ≠ []) (k : ByteArray) : PutIn h false (tAt ks (kidOf ks k)) := by
  obtain ⟨_, _, _, h3, h4, h5⟩ := g.kids hk
  obtain ⟨q1, _, _⟩ := kidOf_spec k hk
  exact ⟨h4 _ (tAt_mem q1), .inl (h3 _ (tAt_mem q1)), (kid_fnd hk h3 h5).2⟩
theorem PutIn.leaf {h : Nat} {r : Bool} {ps : List PB} (g : PutIn h r (.mk ps [])) : h = 1 ∧ ps.length ≤ 4 ∧ (r = false → 2 ≤ ps.length) ∧ Asc ps := by
  have hh : h = 1 := (ev_lv h _ g.ev).symm
  have ha : Asc ps := by simpa [T.all, allL] using g.asc
  rcases g.full with hf | ⟨rfl, e⟩
  · obtain ⟨h1, h2⟩ := full_lf hf
    exact ⟨hh, h1, fun e => by subst e; simpa using h2, ha⟩
  · cases e; exact ⟨hh, by simp, by simp, ha⟩
theorem putS_eq : ∀ (h : Nat) (r : Bool) (t : T) (p : PB), PutIn h r t → putS h t p = two (putF h t p)
  | 0, r, t, p, g => g.ev.elim
  | h + 1, r, .mk ps ks, p, g => by
    by_cases hk : ks = []
    · subst hk
      obtain ⟨_, _, _, ha⟩ := g.leaf
      rw [putS, putF]
      simp only [T.ks, T.ps, if_true]
      rw [insS_eq ha, two_leaf]
    · obtain ⟨rfl, h1, h2, h3, h4, h5⟩ := g.kids hk
      obtain ⟨q1, _, _⟩ := kidOf_spec p.1 hk
      rw [putS, putF]
      simp only [T.ks, T.ps, hk, if_false]
      rw [wayOf_eq hk h3 h5, putS_eq h false _ p (g.kid hk p.1), insK_two _ _ _ q1, two_branch]
      simp only [two]; split <;> simp
/-- What comes of it. -/
structure PutOut (h : Nat) (r : Bool) (l : List PB) (x : T × T) : Prop where
  ev : ∀ y ∈ two x, Ev h y
  one : x.2.bare = true → x.1.full r = true
  both : x.2.bare = false → x.1.full false = true ∧ x.2.full false = true
  all : allL (two x) = l
theorem allL_two (x : T × T) : allL (two x) = x.1.all ++ x.2.all := by
  unfold two
  split
  · rename_i h; rw [bare_iff.1 h]; simp [allL, bareT, T.all]
  · simp [allL]
theorem PutOut.fulls {h : Nat} {l : List PB} {x : T × T} (g : PutOut h false l x) : ∀ y ∈ two x, y.full false = true := by
  intro y hy
  unfold two at hy
  cases e : x.2.bare with
  | true => rw [e] at hy; simp at hy; subst hy; exact g.one e
  | false =>
    rw [e] at hy; simp at hy
    rcases hy with rfl | rfl
    · exact (g.both e).1
    · exact (g.both e).2
theorem two_len (x : T × T) : 1 ≤ (two x).length ∧ (two x).length ≤ 2 := by unfold two; split <;> simp
theorem full_mk_leaf {ps : List PB} {r : Bool} (h : ps.length ≤ 4) (h2 : 2 ≤ ps.length ∨ r = true ∧ ps.length = 1) : (T.mk ps []).full r = true := by
  simpa [T.full, h] using h2
theorem full_mk_br {ks : List T} {r : Bool} (h1 : 2 ≤ ks.length) (h2 : ks.length ≤ 4) (h3 : ∀ x ∈ ks, x.full false = true) : (T.mk [] ks).full r = true := by
  have hk : ks ≠ [] := by rintro rfl; simp at h1
  simp [T.full, hk, h1, h2, (fullL_iff ks).2 h3]
theorem shT_out_leaf {ps : List PB} {r : Bool} (h5 : ps.length ≤ 5) (h1 : 1 ≤ ps.length) (h2 : r = false → 2 ≤ ps.length) : PutOut 1 r ps (shT (.mk ps []) bareT) := by
  by_cases h : 4 < ps.length
  · rw [shT_leaf h]
    have hb : (T.mk (ps.drop 3) []).bare = false := not_bare (by simp; omega)
    refine ⟨?_, fun e => absurd e (by show ¬ _ = true; rw [hb]; simp), fun _ => ⟨full_mk_leaf (by simp; omega) (.inl (by simp; omega)), full_mk_leaf (by simp; omega) (.inl (by simp; omega))⟩, ?_⟩
    · intro y hy
      simp only [two, hb] at hy
      simp at hy
      rcases hy with rfl | rfl <;> exact .inl ⟨rfl, rfl⟩
    · rw [allL_two]; simp [T.all, allL]
  · rw [shT_one (t := .mk ps []) (show ps.length ≤ 4 by omega) (show ([] : List T).length ≤ 4 by simp)]
    refine ⟨?_, fun _ => full_mk_leaf (by omega) ?_, fun e => absurd e (by show ¬ bareT.bare = false; rw [bare_bareT]; simp), by rw [allL_two]; simp [T.all, allL, bareT]⟩
    · intro y hy
      simp only [two, bare_bareT, if_true, List.mem_singleton] at hy
      subst hy; exact .inl ⟨rfl, rfl⟩
    · cases r with
      | false => exact .inl (h2 rfl)
      | true =>
        by_cases e : ps.length = 1
        · exact .inr ⟨rfl, e⟩
        · exact .inl (by omega)
theorem shT_out_br {h : Nat} {ks : List T} {r : Bool} (h5 : ks.length ≤ 5) (h1 : 2 ≤ ks.length) (hf : ∀ x ∈ ks, x.full false = true) (he : ∀ x ∈ ks, Ev h x) : PutOut (h + 1) r (allL ks) (shT (.mk [] ks) bareT) := by
  have hk : ks ≠ [] := by rintro rfl; simp at h1
  by_cases h' : 4 < ks.length
  · rw [shT_branch h']
    have hb : (T.mk [] (ks.drop 3)).bare = false := not_bare (by simp; omega)
    have m1 : ∀ x ∈ ks.take 3, x ∈ ks := fun x hx => List.mem_of_mem_take hx
    have m2 : ∀ x ∈ ks.drop 3, x ∈ ks := fun x hx => List.mem_of_mem_drop hx
    have n1 : ks.take 3 ≠ [] := by intro e; have := congrArg List.length e; rw [List.length_take, List.length_nil] at this; omega
    have n2 : ks.drop 3 ≠ [] := by intro e; have := congrArg List.length e; simp at this; omega
    refine ⟨?_, fun e => absurd e (by show ¬ _ = true; rw [hb]; simp), fun _ => ⟨full_mk_br (by simp; omega) (by simp; omega) (fun x hx => hf x (m1 x hx)), full_mk_br (by simp; omega) (by simp; omega) (fun x hx => hf x (m2 x hx))⟩, ?_⟩
    · intro y hy
      simp only [two, hb] at hy
      simp at hy
      rcases hy with rfl | rfl
      · exact .inr ⟨n1, fun x hx => he x (m1 x hx)⟩
      · exact .inr ⟨n2, fun x hx => he x (m2 x hx)⟩
    · rw [allL_two]
      simp only [T.all, List.nil_append]
      rw [← allL_append, List.take_append_drop]
  · rw [shT_one (t := .mk [] ks) (show ([] : List PB).length ≤ 4 by simp) (show ks.length ≤ 4 by omega)]
    refine ⟨?_, fun _ => full_mk_br h1 (by omega) hf, fun e => absurd e (by show ¬ bareT.bare = false; rw [bare_bareT]; simp), by rw [allL_two]; simp [T.all, allL, bareT]⟩
    intro y hy
    simp only [two, bare_bareT, if_true, List.mem_singleton] at hy
    subst hy; exact .inr ⟨hk, he⟩
theorem putF_out : ∀ (h : Nat) (r : Bool) (t : T) (p : PB), PutIn h r t → PutOut h r (insP t.all p) (putF h t p)
  | 0, r, t, p, g => g.ev.elim
  | h + 1, r, .mk ps ks, p, g => by
    by_cases hk : ks = []
    · subst hk
      obtain ⟨hh, hl, hr, ha⟩ := g.leaf
      obtain rfl : h = 0 := by omega
      rw [putF]
      simp only [T.ks, T.ps, if_true]
      have := shT_out_leaf (ps := insP ps p) (r := r) (by have := insP_len ps p; omega) (insP_pos ps p).2 (fun e => by have := hr e; have := (insP_pos ps p).1; omega)
      simpa [T.all, allL] using this
    · obtain ⟨rfl, h1, h2, h3, h4, h5⟩ := g.kids hk
      obtain ⟨q1, q2, q3⟩ := kidOf_spec p.1 hk
      obtain ⟨a1, a2, a3⟩ := kid_apart h3 h5 q1 q2 q3
      have ih := putF_out h false _ p (g.kid hk p.1)
      rw [putF]
      simp only [T.ks, T.ps, hk, if_false]
      rw [insK_two _ _ _ q1]
      generalize putF h (tAt ks (kidOf ks p.1)) p = x at *
      have htl := two_len x
      have hm : ∀ y ∈ ks.take (kidOf ks p.1) ++ two x ++ ks.drop (kidOf ks p.1 + 1), y ∈ ks ∨ y ∈ two x := by
        intro y hy
        rcases List.mem_append.1 hy with hy | hy
        · rcases List.mem_append.1 hy with hy | hy
          · exact .inl (List.mem_of_mem_take hy)
          · exact .inr hy
        · exact .inl (List.mem_of_mem_drop hy)
      have := shT_out_br (h := h) (r := r) (ks := ks.take (kidOf ks p.1) ++ two x ++ ks.drop (kidOf ks p.1 + 1)) (by simp only [List.length_append, List.length_take, List.length_drop]; omega) (by simp only [List.length_append, List.length_take, List.length_drop]; omega)
        (fun y hy => (hm y hy).elim (h3 y) (ih.fulls y)) (fun y hy => (hm y hy).elim (h4 y) (ih.ev y))
      have e : allL (ks.take (kidOf ks p.1) ++ two x ++ ks.drop (kidOf ks p.1 + 1)) = insP (T.mk [] ks).all p := by
        rw [allL_append, allL_append, ih.all, show (T.mk [] ks).all = allL ks by simp [T.all], all_split q1, insP_left _ a1, insP_right _ a2, List.append_assoc]
      rwa [e] at this
/-- The root behind the put. -/
def rootT (x : T × T) : T := if x.2.bare = true then x.1 else .mk [] [x.1, x.2]
theorem rootT_full {h : Nat} {l : List PB} {x : T × T} (g : PutOut h true l x) : (rootT x).full true = true ∧ (∃ h, Ev h (rootT x)) ∧ (rootT x).all = l := by
  unfold rootT
  cases e : x.2.bare with
  | true =>
    refine ⟨g.one e, ⟨h, g.ev _ (by simp [two, e])⟩, ?_⟩
    have := g.all
    rw [two, e] at this
    simpa [allL] using this
  | false =>
    obtain ⟨h1, h2⟩ := g.both e
    have ht : two x = [x.1, x.2] := by simp [two, e]
    refine ⟨full_mk_br (by simp) (by simp) (by simp; exact ⟨h1, h2⟩), ⟨h + 1, .inr ⟨by simp, fun y hy => g.ev y (by rw [ht]; exact hy)⟩⟩, ?_⟩
    have := g.all
    rw [ht] at this
    simpa [T.all] using this
theorem pOkF_of (l : List PB) (hk : ∀ x ∈ l, kOk x.1 = true ∧ vOk x.2 = true) (ha : Asc l) : ∀ f k, k + f ≤ l.length → pOkF l f k = true
  | 0, k, _ => rfl
  | f + 1, k, h => by
    have hlt : k < l.length := by omega
    have := hk (pAtB l k) (by rw [pAtB_lt hlt]; exact List.getElem_mem hlt)
    rw [pOkF, this.1, this.2, pOkF_of l hk ha f (k + 1) (by omega)]
    by_cases e : k = 0
    · simp [e]
    · have := ha.at (show k - 1 < k by omega) hlt
      simp only [klt] at this
      simp [this]
theorem pOk_of {l : List PB} (hl : l.length ≤ 200) (hk : ∀ x ∈ l, kOk x.1 = true ∧ vOk x.2 = true) (ha : Asc l) : pOk l = true := by
  simp [pOk, hl, pOkF_of l hk ha l.length 0 (by omega)]
theorem pOkF_mem (l : List PB) : ∀ f k, pOkF l f k = true → ∀ i, k ≤ i → i < k + f → kOk (pAtB l i).1 = true ∧ vOk (pAtB l i).2 = true
  | 0, k, _, i, h1, h2 => by omega
  | f + 1, k, h, i, h1, h2 => by
    rw [pOkF] at h
    simp only [Bool.and_eq_true] at h
    by_cases e : i = k
    · rw [e]; exact ⟨h.1.1.1, h.1.1.2⟩
    · exact pOkF_mem l f (k + 1) h.2 i (by omega) (by omega)
theorem pOk_mem {l : List PB} (h : pOk l = true) {x : PB} (hx : x ∈ l) : kOk x.1 = true ∧ vOk x.2 = true := by
  simp only [pOk, Bool.and_eq_true] at h
  obtain ⟨i, hi, rfl⟩ := List.mem_iff_getElem.1 hx
  rw [← pAtB_lt hi]
  exact pOkF_mem l l.length 0 h.2 i (by omega) (by omega)
theorem pOk_ins {l : List PB} {p : PB} (h : pOk l = true) (hk : kOk p.1 = true) (hv : vOk p.2 = true) (hl : (insP l p).length ≤ 200) : pOk (insP l p) = true :=
  pOk_of hl (fun _ hx => (insP_mem hx).elim (fun e => e ▸ ⟨hk, hv⟩) (fun hx => pOk_mem h hx)) (insP_asc (pOk_asc h))
end Go.Proofs.YtcpdedpgjaimkaaDoor
/-
  Rows of subs; l03Split and l03Way of the specification.
-/
namespace Go.Proofs.YtcpdedpgjaimkaaDoor
open Go.RowKit
theorem Rw.take {w : World} {S : Nat → Prop} {a : Option Addr} {n c m : Nat} {xs : List Value} (h : Rw w S (.slice a n c) n xs) (hm : m ≤ n) (s : Nat) : Rw w S (.slice a m c) m (xs.take (m * s)) := by
  obtain ⟨a', c', e, h2, h3, h4, hn, h5⟩ := h
  cases e
  refine ⟨a, c, rfl, by omega, h3, fun e => by rw [e]; simp, hn, fun hp => ?_⟩
  obtain ⟨b, off, h6, h7, h8, h9⟩ := h5 (by omega)
  refine ⟨b, off, h6, h7, h8, fun j u hu => h9 j u ?_⟩
  rw [List.getElem?_take] at hu
  split at hu
  · exact hu
  · cases hu
theorem Rw.drop {w : World} {S : Nat → Prop} {b off n c m : Nat} {xs : List Value} (h : Rw w S (.slice (some ⟨b, off, none⟩) n c) n xs) (hm : m ≤ n) (s : Nat) (h0 : n - m = 0 → xs.drop (m * s) = []) : Rw w S (.slice (some ⟨b, off + m * s, none⟩) (n - m) (c - m)) (n - m) (xs.drop (m * s)) := by
  obtain ⟨a', c', e, h2, h3, h4, hn, h5⟩ := h
  cases e
  refine ⟨_, _, rfl, by omega, by omega, h0, fun e => (by cases e), fun hp => ?_⟩
  obtain ⟨b', off', h6, h7, h8, h9⟩ := h5 (by omega)
  cases h6
  refine ⟨b, off + m * s, rfl, h7, h8, fun j u hu => ?_⟩
  rw [List.getElem?_drop] at hu
  have := h9 _ u hu
  rwa [← Nat.add_assoc] at this
theorem ncs_take (V : List V3) : ∀ m, (ncs V).take (m * 3) = ncs (V.take m) := by
  induction V with
  | nil => intro m; simp [ncs]
  | cons p V ih =>
    intro m
    cases m with
    | zero => simp [ncs]
    | succ m =>
      rw [show (m + 1) * 3 = m * 3 + 1 + 1 + 1 by omega, ncs, List.take_succ_cons, List.take_succ_cons, List.take_succ_cons, ih, List.take_succ_cons, ncs]
theorem ncs_drop (V : List V3) : ∀ m, (ncs V).drop (m * 3) = ncs (V.drop m) := by
  induction V with
  | nil => intro m; simp [ncs]
  | cons p V ih =>
    intro m
    cases m with
    | zero => simp
    | succ m =>
      rw [show (m + 1) * 3 = m * 3 + 1 + 1 + 1 by omega, ncs, List.drop_succ_cons, List.drop_succ_cons, List.drop_succ_cons, ih, List.drop_succ_cons]
theorem mkV_take (L : Nat → Bool) (P K : Nat → Value) (n m : Nat) (h : m ≤ n) : (mkV L P K n).take m = mkV L P K m := by
  apply List.ext_getElem
  · simp [mkV]; omega
  · intro i h1 h2; simp [mkV]
theorem mkV_drop (L : Nat → Bool) (P K : Nat → Value) (n m : Nat) : (mkV L P K n).drop m = mkV (fun i => L (m + i)) (fun i => P (m + i)) (fun i => K (m + i)) (n - m) := by
  apply List.ext_getElem
  · simp [mkV]
  · intro i h1 h2; simp [mkV]
theorem mkV_app (L1 L2 : Nat → Bool) (P1 K1 P2 K2 : Nat → Value) (n1 n2 : Nat) : mkV L1 P1 K1 n1 ++ mkV L2 P2 K2 n2 = mkV (fun i => if i < n1 then L1 i else L2 (i - n1)) (fun i => if i < n1 then P1 i else P2 (i - n1)) (fun i => if i < n1 then K1 i else K2 (i - n1)) (n1 + n2) := by
  apply List.ext_getElem
  · simp [mkV]
  · intro i h1 h2
    by_cases hi : i < n1
    · rw [List.getElem_append_left (by simpa [mkV] using hi)]; simp [mkV, hi]
    · rw [List.getElem_append_right (by simpa [mkV] using hi)]; simp [mkV, hi]
/-- The slice v leads to the subs ts. -/
def SubR (w : World) (S : Nat → Prop) (v : Value) (ts : List T) : Prop := ∃ L P K, Rw w S v ts.length (ncs (mkV L P K ts.length)) ∧ ∀ i, i < ts.length → Sub w S (L i) (P i) (K i) (tAt ts i)
theorem SubR.to {w w' : World} {S R : Nat → Prop} {v : Value} {ts : List T} (h : SubR w S v ts) (ho : Only R w w') (hR : ∀ x, S x → x < w.heap.size → ¬ R x) : SubR w' S v ts := by
  obtain ⟨L, P, K, h1, h2⟩ := h
  exact ⟨L, P, K, h1.to ho hR, fun i hi => (h2 i hi).to ho hR⟩
theorem SubR.kept {w w' : World} {S : Nat → Prop} {v : Value} {ts : List T} (h : SubR w S v ts) (hb : Below w.heap.size w w') : SubR w' S v ts := h.to (only_of_below hb (fun _ => False)) (fun _ _ _ h => h)
theorem SubR.mono {w : World} {S R : Nat → Prop} {v : Value} {ts : List T} (h : SubR w S v ts) (hR : ∀ x, S x → x < w.heap.size → R x) : SubR w R v ts := by
  obtain ⟨L, P, K, h1, h2⟩ := h
  exact ⟨L, P, K, h1.mono hR, fun i hi => (h2 i hi).mono hR⟩
theorem SubR.shape {w : World} {S : Nat → Prop} {v : Value} {ts : List T} (h : SubR w S v ts) : ∃ a n c, v = .slice a n c ∧ Hid (n = ts.length) := by
  obtain ⟨L, P, K, h1, h2⟩ := h
  obtain ⟨a, c, e, _⟩ := h1.shape
  exact ⟨a, _, c, e, rfl⟩
/-- A sub of kids alone. -/
theorem SubR.sub {w : World} {S : Nat → Prop} {v : Value} {ts : List T} (h : SubR w S v ts) (hne : ts ≠ []) : Sub w S false (.slice none 0 0) v (.mk [] ts) := by
  obtain ⟨L, P, K, h1, h2⟩ := h
  exact .mk false _ v [] ts L P K (by have := List.length_pos_iff.2 hne; symm; exact decide_eq_false (by omega)) (rw_nil _ _) h1 h2
theorem Sub.row {w : World} {S : Nat → Prop} {lf : Bool} {pv kv : Value} {t : T} (h : Sub w S lf pv kv t) : SubR w S kv t.ks := by
  cases h with
  | mk _ _ _ ps ks L P K hlf hP hK hk => exact ⟨L, P, K, hK, hk⟩
theorem SubR.take {w : World} {S : Nat → Prop} {a : Option Addr} {n c m : Nat} {ts : List T} (h : SubR w S (.slice a n c) ts) (hm : m ≤ n) : SubR w S (.slice a m c) (ts.take m) := by
  obtain ⟨L, P, K, h1, h2⟩ := h
  have hn := h1.len.1
  subst hn
  have hl : (ts.take m).length = m := by rw [List.length_take]; omega
  refine ⟨L, P, K, ?_, fun i hi => ?_⟩
  · have := h1.take hm 3
    rw [ncs_take, mkV_take _ _ _ _ _ hm] at this
    rw [hl]; exact this
  · rw [hl] at hi; rw [tAt_take hi]; exact h2 i (by omega)
theorem SubR.drop {w : World} {S : Nat → Prop} {b off n c m : Nat} {ts : List T} (h : SubR w S (.slice (some ⟨b, off, none⟩) n c) ts) (hm : m ≤ n) : SubR w S (.slice (some ⟨b, off + m * 3, none⟩) (n - m) (c - m)) (ts.drop m) := by
  obtain ⟨L, P, K, h1, h2⟩ := h
  have hn := h1.len.1
  subst hn
  refine ⟨fun i => L (m + i), fun i => P (m + i), fun i => K (m + i), ?_, fun i hi => ?_⟩
  · have := h1.drop hm 3 (fun e => by rw [ncs_drop, mkV_drop, e]; rfl)
    rw [ncs_drop, mkV_drop] at this
    rw [List.length_drop]; exact this
  · rw [List.length_drop] at hi; rw [tAt_drop]; exact h2 (m + i) (by omega)
def SubsPost (w : World) (S : Nat → Prop) (ts : List T) (e : Ending) (w' : World) : Prop := ∃ v, e = .returned v ∧ SubR w' (fun y => S y ∨ w.heap.size ≤ y) v ts ∧ Below w.heap.size w w'
theorem subR_two {w : World} {S : Nat → Prop} {g : Nat} {l1 l2 : Bool} {p1 k1 p2 k2 : Value} {t1 t2 : T} (hB : Bk w g 98 [.bool l1, p1, k1, .bool l2, p2, k2]) (hS : S g) (h1 : Sub w S l1 p1 k1 t1) (h2 : Sub w S l2 p2 k2 t2) : SubR w S (.slice (some ⟨g, 0, none⟩) 2 2) [t1, t2] := by
  refine ⟨fun i => if i = 0 then l1 else l2, fun i => if i = 0 then p1 else p2, fun i => if i = 0 then k1 else k2, hB.rw (Nat.le_refl _) (by omega) (fun h => by omega) _ hS, fun i hi => ?_⟩
  simp at hi
  by_cases e : i = 0
  · subst e; exact h1
  · obtain rfl : i = 1 := by omega
    exact h2
theorem subR_one {w : World} {S : Nat → Prop} {g : Nat} {l1 : Bool} {p1 k1 : Value} {t1 : T} (hB : Bk w g 98 [.bool l1, p1, k1]) (hS : S g) (h1 : Sub w S l1 p1 k1 t1) : SubR w S (.slice (some ⟨g, 0, none⟩) 1 1) [t1] := by
  refine ⟨fun _ => l1, fun _ => p1, fun _ => k1, hB.rw (Nat.le_refl _) (by omega) (fun h => by omega) _ hS, fun i hi => ?_⟩
  simp at hi; subst hi; exact h1
theorem Sub.leafOf {w : World} {S : Nat → Prop} {pv : Value} {ps : List PB} (h : Pr w S pv ps) : Sub w S true pv (.slice none 0 0) (.mk ps []) := .mk true pv _ ps [] (fun _ => false) (fun _ => .slice none 0 0) (fun _ => .slice none 0 0) rfl h (rw_nil _ _) (fun i hi => by simp at hi)
set_option maxHeartbeats 2000000 in
theorem specSplit_any (S : Nat → Prop) (lf : Bool) (ap ak : Option Addr) (np cp nk ck : Nat) (t : T) (w : World) (h : Sub w S lf (.slice ap np cp) (.slice ak nk ck) t) :
    Calls Tryd.prog 77 #[.agg #[.bool lf, .slice ap np cp, .slice ak nk ck]] w fun e w' => SubsPost w S (splT t) e w' := by
  obtain ⟨_, _, _, _, _, _, e1, e2, HNP, HNK, b1, b2, hlf, hP⟩ := h.shape
  cases e1
  cases e2
  have hcp := (Rw.len hP).2
  have HR := hid h.row
  have hck : nk ≤ ck ∧ ck ≤ 9223372036854775807 := by
    obtain ⟨L, P, K, h1, _⟩ := h.row
    exact h1.len.2
  have H0 := hid h
  have HP := hid hP
  have HB0 := hid (below_new (o := .cells #[.bool lf, .slice ap np cp, .slice ak nk ck] 98) (w := w) (Below.refl _ _))
  have K0 := hid (Bk.new w 98 [.bool lf, .slice ap np cp, .slice ak nk ck])
  have c0 := K0.out.cell (j := 0) rfl
  have c1 := K0.out.cell (j := 1) rfl
  have c2 := K0.out.cell (j := 2) rfl
  clear h hP
  obtain ⟨hcp1, hcp2⟩ := hcp
  obtain ⟨hck1, hck2⟩ := hck
  by_cases hk : nk = 0
  · have hlf' : lf = true := by rw [hlf, hk]; rfl
    have HKS : Hid (t.ks = []) := List.eq_nil_of_length_eq_zero (by rw [← HNK.out]; exact hk)
    subst hlf' hk
    by_cases h4 : 4 < np
    · have h4' : (4 : Int) < (np : Int) := by omega
      have h4a : (3 : Int) ≤ (np : Int) := by omega
      have h4b : (3 : Int) ≤ (cp : Int) := by omega
      have HT : Hid (splT t = [.mk (t.ps.take 3) [], .mk (t.ps.drop 3) []]) := by show _ = _; rw [splT, if_pos ⟨HKS.out, by rw [← HNP.out]; exact h4⟩]
      obtain ⟨b, off, hab, _, _, _⟩ := (HP.out).at (by omega)
      subst hab
      have hn : np = t.ps.length := HNP.out
      have HQ : Hid (Pr w S (.slice (some ⟨b, off, none⟩) 3 cp) (t.ps.take 3) ∧ Pr w S (.slice (some ⟨b, off + 3 * 2, none⟩) (np - 3) (cp - 3)) (t.ps.drop 3)) := by
        have hp := HP.out
        unfold Pr at hp
        rw [← hn] at hp
        refine ⟨?_, ?_⟩
        · have := hp.take (m := 3) (by omega) 2
          rw [pcs_take] at this
          unfold Pr
          rw [List.length_take, ← hn, Nat.min_eq_left (by omega)]
          exact this
        · have := hp.drop (m := 3) (by omega) 2 (by omega)
          rw [pcs_drop] at this
          unfold Pr
          rw [List.length_drop, ← hn]
          exact this
      have HFIN : Hid (SubsPost w S (splT t) (.returned (.slice (some ⟨w.heap.size + 1, 0, none⟩) 2 2)) ((w.alloc (.cells #[.bool true, .slice (some ⟨b, off, none⟩) np cp, .slice ak 0 ck] 98)).alloc (.cells #[.bool true, .slice (some ⟨b, off, none⟩) 3 cp, .slice none 0 0, .bool true, .slice (some ⟨b, off + 6, none⟩) (np - 3) (cp - 3), .slice none 0 0] 98)).drew) := by
        have hb : Below w.heap.size w ((w.alloc (.cells #[.bool true, .slice (some ⟨b, off, none⟩) np cp, .slice ak 0 ck] 98)).alloc (.cells #[.bool true, .slice (some ⟨b, off, none⟩) 3 cp, .slice none 0 0, .bool true, .slice (some ⟨b, off + 6, none⟩) (np - 3) (cp - 3), .slice none 0 0] 98)).drew := Below.then' (below_new (below_new (Below.refl _ _))) (below_drew _) (Nat.le_refl _)
        refine ⟨_, rfl, ?_, hb⟩
        rw [HT.out]
        have kb := (Bk.new (w.alloc (.cells #[.bool true, .slice (some ⟨b, off, none⟩) np cp, .slice ak 0 ck] 98)) 98 [.bool true, .slice (some ⟨b, off, none⟩) 3 cp, .slice none 0 0, .bool true, .slice (some ⟨b, off + 6, none⟩) (np - 3) (cp - 3), .slice none 0 0]).below (below_drew _)
        refine subR_two (by simpa using kb) (.inr (by omega)) (Sub.leafOf ((HQ.out.1.below hb).mono (fun y hy _ => .inl hy))) (Sub.leafOf ((HQ.out.2.below hb).mono (fun y hy _ => .inl hy)))
      clear hn HP HR H0 hlf
      go_enter Tryd.func77, Tryd.ntmps77
      go_wp2_with fail
      go_region
      all_goals (go_wp2_with fail)
      all_goals go_ret
      all_goals exact HFIN.out
    · have h4' : ¬ (4 : Int) < (np : Int) := by omega
      have HT : Hid (splT t = [t]) := by show _ = _; rw [splT, if_neg (fun e => by have := e.2; rw [← HNP.out] at this; omega), if_neg (by rw [HKS.out]; simp)]
      have HFIN : Hid (SubsPost w S (splT t) (.returned (.slice (some ⟨w.heap.size + 1, 0, none⟩) 1 1)) ((w.alloc (.cells #[.bool true, .slice ap np cp, .slice ak 0 ck] 98)).alloc (.cells #[.bool true, .slice ap np cp, .slice ak 0 ck] 98))) := by
        have hb : Below w.heap.size w ((w.alloc (.cells #[.bool true, .slice ap np cp, .slice ak 0 ck] 98)).alloc (.cells #[.bool true, .slice ap np cp, .slice ak 0 ck] 98)) := below_new (below_new (Below.refl _ _))
        refine ⟨_, rfl, ?_, hb⟩
        rw [HT.out]
        have kb := (Bk.new (w.alloc (.cells #[.bool true, .slice ap np cp, .slice ak 0 ck] 98)) 98 [.bool true, .slice ap np cp, .slice ak 0 ck])
        exact subR_one (by simpa using kb) (.inr (by omega)) ((H0.out.kept hb).mono (fun y hy _ => .inl hy))
      clear HP HR H0 hlf
      go_enter Tryd.func77, Tryd.ntmps77
      go_wp2
      go_ret
      exact HFIN.out
  · have hlf' : lf = false := by rw [hlf]; exact decide_eq_false hk
    subst hlf'
    have HKS : Hid (t.ks ≠ []) := fun e => hk (by rw [HNK.out, e]; rfl)
    by_cases h4 : 4 < nk
    · have h4' : (4 : Int) < (nk : Int) := by omega
      have h4a : (3 : Int) ≤ (nk : Int) := by omega
      have h4b : (3 : Int) ≤ (ck : Int) := by omega
      have HT : Hid (splT t = [.mk [] (t.ks.take 3), .mk [] (t.ks.drop 3)]) := by show _ = _; rw [splT, if_neg (fun e => HKS.out e.1), if_pos (by rw [← HNK.out]; exact h4)]
      obtain ⟨b, off, hab⟩ : ∃ b off, ak = some ⟨b, off, none⟩ := by
        obtain ⟨L, P, K, h1, _⟩ := HR.out
        obtain ⟨b, off, e, _⟩ := h1.at (by omega)
        exact ⟨b, off, e⟩
      subst hab
      have HQ : Hid (SubR w S (.slice (some ⟨b, off, none⟩) 3 ck) (t.ks.take 3) ∧ SubR w S (.slice (some ⟨b, off + 3 * 3, none⟩) (nk - 3) (ck - 3)) (t.ks.drop 3)) := ⟨HR.out.take (by omega), HR.out.drop (by omega)⟩
      have HFIN : Hid (SubsPost w S (splT t) (.returned (.slice (some ⟨w.heap.size + 1, 0, none⟩) 2 2)) ((w.alloc (.cells #[.bool false, .slice ap np cp, .slice (some ⟨b, off, none⟩) nk ck] 98)).alloc (.cells #[.bool false, .slice none 0 0, .slice (some ⟨b, off, none⟩) 3 ck, .bool false, .slice none 0 0, .slice (some ⟨b, off + 9, none⟩) (nk - 3) (ck - 3)] 98)).drew) := by
        have hb : Below w.heap.size w ((w.alloc (.cells #[.bool false, .slice ap np cp, .slice (some ⟨b, off, none⟩) nk ck] 98)).alloc (.cells #[.bool false, .slice none 0 0, .slice (some ⟨b, off, none⟩) 3 ck, .bool false, .slice none 0 0, .slice (some ⟨b, off + 9, none⟩) (nk - 3) (ck - 3)] 98)).drew := Below.then' (below_new (below_new (Below.refl _ _))) (below_drew _) (Nat.le_refl _)
        refine ⟨_, rfl, ?_, hb⟩
        rw [HT.out]
        have kb := (Bk.new (w.alloc (.cells #[.bool false, .slice ap np cp, .slice (some ⟨b, off, none⟩) nk ck] 98)) 98 [.bool false, .slice none 0 0, .slice (some ⟨b, off, none⟩) 3 ck, .bool false, .slice none 0 0, .slice (some ⟨b, off + 9, none⟩) (nk - 3) (ck - 3)]).below (below_drew _)
        have hl : t.ks.length = nk := HNK.out.symm
        refine subR_two (by simpa using kb) (.inr (by omega)) (((HQ.out.1.kept hb).mono (fun y hy _ => .inl hy)).sub ?_) (((HQ.out.2.kept hb).mono (fun y hy _ => .inl hy)).sub ?_)
        · intro e; have := congrArg List.length e; rw [List.length_take, List.length_nil] at this; omega
        · intro e; have := congrArg List.length e; rw [List.length_drop, List.length_nil] at this; omega
      clear HR H0 hlf
      go_enter Tryd.func77, Tryd.ntmps77
      go_wp2_with fail
      go_region
      all_goals (go_wp2_with fail)
      all_goals go_ret
      all_goals exact HFIN.out
    · have h4' : ¬ (4 : Int) < (nk : Int) := by omega
      have HT : Hid (splT t = [t]) := by show _ = _; rw [splT, if_neg (fun e => HKS.out e.1), if_neg (by rw [← HNK.out]; omega)]
      have HFIN : Hid (SubsPost w S (splT t) (.returned (.slice (some ⟨w.heap.size + 1, 0, none⟩) 1 1)) ((w.alloc (.cells #[.bool false, .slice ap np cp, .slice ak nk ck] 98)).alloc (.cells #[.bool false, .slice ap np cp, .slice ak nk ck] 98))) := by
        have hb : Below w.heap.size w ((w.alloc (.cells #[.bool false, .slice ap np cp, .slice ak nk ck] 98)).alloc (.cells #[.bool false, .slice ap np cp, .slice ak nk ck] 98)) := below_new (below_new (Below.refl _ _))
        refine ⟨_, rfl, ?_, hb⟩
        rw [HT.out]
        have kb := (Bk.new (w.alloc (.cells #[.bool false, .slice ap np cp, .slice ak nk ck] 98)) 98 [.bool false, .slice ap np cp, .slice ak nk ck])
        exact subR_one (by simpa using kb) (.inr (by omega)) ((H0.out.kept hb).mono (fun y hy _ => .inl hy))
      clear HR H0 hlf
      go_enter Tryd.func77, Tryd.ntmps77
      go_wp2
      go_ret
      exact HFIN.out
set_option maxHeartbeats 2000000 in
theorem specWay_any (S : Nat → Prop) (lf : Bool) (ap ak : Option Addr) (np cp nk ck : Nat) (t : T) (k : ByteArray) (w : World) (h : Sub w S lf (.slice ap np cp) (.slice ak nk ck) t) (hs : t.ks.length ≤ 1048576) :
    Calls Tryd.prog 74 #[.agg #[.bool lf, .slice ap np cp, .slice ak nk ck], .string k] w fun e w' => e = .returned (.int .i64 (wayOf t.ks k : Nat)) ∧ Below w.heap.size w w' := by
  obtain ⟨_, _, _, _, _, _, e1, e2, HNP, HNK, b1, b2, -, -⟩ := h.shape
  cases e1
  cases e2
  have hnk : nk ≤ 1048576 := by rw [HNK.out]; exact hs
  have HB0 := hid (below_new (o := .cells #[.bool lf, .slice ap np cp, .slice ak nk ck] 98) (w := w) (Below.refl _ _))
  have K0 := hid (Bk.new w 98 [.bool lf, .slice ap np cp, .slice ak nk ck])
  have H0 := hid h
  clear h hs b1 b2
  go_enter Tryd.func74, Tryd.ntmps74
  go_wp2_with fail
  go_loopw [5, 6] (fun x y wr => ∃ i a f : Nat, x = .int .i64 (a : Int) ∧ y = .int .i64 (i : Int) ∧ 1 ≤ i ∧ i ≤ nk + 1 ∧ Hid (wayF t.ks k f i a = wayOf t.ks k) ∧ Hid (t.ks.length ≤ i + f) ∧ Hid (Bk wr w.heap.size 98 [.bool lf, .slice ap np cp, .slice ak nk ck]) ∧ Hid (Below w.heap.size w wr)) (fun _ y _ => nk + 1 - (intOf y).toNat)
  case atStart => exact ⟨1, 0, t.ks.length, rfl, rfl, Nat.le_refl _, by omega, rfl, Nat.le_add_left _ _, K0.out, HB0.out⟩
  case round =>
    obtain ⟨i, a, f, rfl, rfl, hi1, hi2, HW, HF, HK, HB⟩ := hrel
    have c2 := HK.out.cell (j := 2) rfl
    by_cases hlt : i < nk
    · have hlt' : (i : Int) < (nk : Int) := by omega
      have hi0 : (0 : Int) ≤ (i : Int) := by omega
      obtain ⟨g, off, hak, _, _, hkid⟩ := (H0.out.kept HB.out).kids (by omega)
      subst hak
      obtain ⟨l1, ap1, np1, cp1, ak1, nk1, ck1, x0, x1, x2, hs1⟩ := hkid i hlt
      have HS1 := hid hs1
      clear hkid hs1
      go_wp2_with fail
      refine (specLeast_any _ _ l1 ap1 ak1 np1 cp1 nk1 ck1 wr HS1.out).mono ?_
      rintro e w1 ⟨rfl, hb⟩
      have HB1 := hid (Below.then' HB.out hb (Nat.le_refl _))
      have HK1 := hid (HK.out.below hb)
      obtain ⟨f, rfl⟩ : ∃ g, f = g + 1 := ⟨f - 1, by have := HF.out; have := HNK.out; omega⟩
      have HW2 : Hid (wayF t.ks k f (i + 1) (if klt k (tAt t.ks i).least = false then i else a) = wayOf t.ks k) := by
        have := HW.out
        rw [wayF, if_pos (by rw [← HNK.out]; exact hlt)] at this
        exact this
      have HF2 : Hid (t.ks.length ≤ i + 1 + f) := by have := HF.out; show _ ≤ _; omega
      clear hb HW HF x0 x1 x2 HB HK c2 HS1
      generalize (tAt t.ks i).least = z at *
      rcases tri z k with ⟨h1, h2, h3, h4⟩ | rfl | ⟨h1, h2, h3, h4⟩
      · have hz : klt k z = false := h2
        rw [if_pos hz] at HW2
        clear hz
        go_wp2
        go_roundw
        case rel => exact ⟨i + 1, i, f, rfl, by go_num, by omega, by omega, HW2.out, HF2.out, HK1.out, HB1.out⟩
        case measure => simp [intOf]; omega
      · have hz : klt z z = false := klt_irrefl z
        rw [if_pos hz] at HW2
        clear hz
        go_wp2
        go_roundw
        case rel => exact ⟨i + 1, i, f, rfl, by go_num, by omega, by omega, HW2.out, HF2.out, HK1.out, HB1.out⟩
        case measure => simp [intOf]; omega
      · have hz : klt k z = true := h2
        rw [if_neg (by rw [hz]; simp)] at HW2
        clear hz
        go_wp2
        go_roundw
        case rel => exact ⟨i + 1, a, f, rfl, by go_num, by omega, by omega, HW2.out, HF2.out, HK1.out, HB1.out⟩
        case measure => simp [intOf]; omega
    · have hlt' : ¬ (i : Int) < (nk : Int) := by omega
      have HA : Hid (wayOf t.ks k = a) := by
        show _ = _
        rw [← HW.out]
        cases f with
        | zero => rfl
        | succ f => rw [wayF, if_neg (by rw [← HNK.out]; exact hlt)]
      clear HW HF
      go_wp2
      go_ret
      exact ⟨by rw [HA.out]; rfl, HB.out⟩
end Go.Proofs.YtcpdedpgjaimkaaDoor
/-
  l03Put of the specification.
-/
namespace Go.Proofs.YtcpdedpgjaimkaaDoor
open Go.RowKit
/-- What is kept while a leaf's pairs are gone through: the pair, and the list that is made. -/
structure LeafI (w wr : World) (k v : ByteArray) (o : Value) (l : List PB) : Prop where
  p : Bk wr (w.heap.size + 1) 91 [.string k, .string v]
  o : Ow wr (w.heap.size + 2) o l
  b : Below w.heap.size w wr
  s : w.heap.size + 2 ≤ wr.heap.size
theorem LeafI.keep {w wr w1 : World} {k v : ByteArray} {o : Value} {l : List PB} (h : LeafI w wr k v o l) (hb : Below wr.heap.size wr w1) : LeafI w w1 k v o l := ⟨h.p.below hb, h.o.kept hb, Below.then' h.b hb (Nat.le_refl _), Nat.le_trans h.s hb.size⟩
theorem LeafI.push {w u w2 : World} {k v : ByteArray} {o o' : Value} {l l' : List PB} (h : LeafI w u k v o l) (hO : Ow w2 (w.heap.size + 2) o' l') (hg : u.grownBy w2 o.ownBlock) : LeafI w w2 k v o' l' := by
  have hlt := fun x e => (World.ownsRow.lt h.o x e).1
  have hon : Only (fun y => o.ownBlock = some y) u w2 := only_of_grown hg (fun _ e => e)
  exact ⟨h.p.to hon (fun e => by have := hlt _ e; omega), hO, h.b.trans (hon.below h.b.size (fun b hb e => by have := hlt _ e; omega)), Nat.le_trans h.s hg.size⟩
theorem insS_cons (x : PB) (l : List PB) (p : PB) (d : Bool) : insS (x :: l) p d = (if d = false ∧ klt x.1 p.1 = false then [p] else []) ++ ((if x.1 = p.1 then [] else [x]) ++ insS l p (d || !klt x.1 p.1)) := rfl
theorem drop_pAtB {ps : List PB} {i : Nat} (h : i < ps.length) : ps.drop i = pAtB ps i :: ps.drop (i + 1) := by rw [pAtB_lt h, List.getElem_cons_drop h]
theorem insS_len (l : List PB) (p : PB) : ∀ d, (insS l p d).length ≤ l.length + 1 + l.length := by
  induction l with
  | nil => intro d; simp only [insS]; split <;> simp
  | cons x l ih =>
    intro d
    rw [insS_cons]
    have := ih (d || !klt x.1 p.1)
    simp only [List.length_append, List.length_cons]
    split <;> split <;> simp <;> omega
/-- An owned row of subs, its subs lying in other blocks. -/
def SO (w : World) (base : Nat) (S : Nat → Prop) (v : Value) (ts : List T) : Prop := ∃ L P K, w.ownsRow base 98 3 v ts.length (ncs (mkV L P K ts.length)) ∧ (∀ i, i < ts.length → Sub w S (L i) (P i) (K i) (tAt ts i)) ∧ ∀ y, S y → v.ownBlock ≠ some y
theorem SO.to {w w' : World} {base : Nat} {S R : Nat → Prop} {v : Value} {ts : List T} (h : SO w base S v ts) (ho : Only R w w') (hv : ∀ y, v.ownBlock = some y → ¬ R y) (hR : ∀ y, S y → y < w.heap.size → ¬ R y) : SO w' base S v ts := by
  obtain ⟨L, P, K, h1, h2, h3⟩ := h
  exact ⟨L, P, K, own_kept h1 ho hv, fun i hi => (h2 i hi).to ho hR, h3⟩
theorem SO.kept {w w' : World} {base : Nat} {S : Nat → Prop} {v : Value} {ts : List T} (h : SO w base S v ts) (hb : Below w.heap.size w w') : SO w' base S v ts := h.to (only_of_below hb (fun _ => False)) (fun _ _ h => h) (fun _ _ _ h => h)
theorem SO.shape {w : World} {base : Nat} {S : Nat → Prop} {v : Value} {ts : List T} (h : SO w base S v ts) : ∃ a n c, v = .slice a n c ∧ Hid (n = ts.length) := by
  obtain ⟨L, P, K, h1, _⟩ := h
  obtain ⟨a, c, e⟩ := own_shape h1
  exact ⟨a, _, c, e, rfl⟩
theorem SO.subR {w : World} {base : Nat} {S R : Nat → Prop} {v : Value} {ts : List T} (h : SO w base S v ts) (hv : ∀ y, v.ownBlock = some y → base ≤ y → y < w.heap.size → R y) (hS : ∀ y, S y → y < w.heap.size → R y) : SubR w R v ts := by
  obtain ⟨L, P, K, h1, h2, h3⟩ := h
  exact ⟨L, P, K, rw_own h1 hv, fun i hi => (h2 i hi).mono hS⟩
theorem so_new (w : World) (base : Nat) (hb : base ≤ w.heap.size) : SO (w.alloc (.cells #[] 98)) base (fun _ => False) (.slice (some ⟨w.heap.size, 0, none⟩) 0 0) [] :=
  ⟨fun _ => false, fun _ => .slice none 0 0, fun _ => .slice none 0 0, ⟨rfl, .inr ⟨w.heap.size, 0, #[], rfl, hb, heap_alloc_new w _, Nat.le_refl _, by decide, rfl, rfl⟩⟩, fun i hi => by simp at hi, fun _ h => h.elim⟩
theorem mkV_one {w : World} {S : Nat → Prop} {L : Nat → Bool} {P K : Nat → Value} {ts : List T} (h : ∀ i, i < ts.length → Sub w S (L i) (P i) (K i) (tAt ts i)) : ∀ u ∈ ncs (mkV L P K ts.length), u.oneCell' = true := by
  intro u hu
  obtain ⟨j, hj⟩ := List.mem_iff_getElem?.1 hu
  have hl : (ncs (mkV L P K ts.length)).length = ts.length * 3 := by rw [ncs_length, mkV_length]
  have hjl := (List.getElem?_eq_some_iff.1 hj).1
  have hi : j / 3 < ts.length := by omega
  obtain ⟨c0, c1, c2⟩ := ncs_at (mkV L P K ts.length) (j / 3) (by rw [mkV_length]; exact hi)
  rw [mkV_at _ _ _ _ _ hi] at c0 c1 c2
  obtain ⟨ap, np, cp, ak, nk, ck, e1, e2, _⟩ := (h _ hi).shape
  simp only at c0 c1 c2
  rw [e1] at c1
  rw [e2] at c2
  rcases (show j = j / 3 * 3 ∨ j = j / 3 * 3 + 1 ∨ j = j / 3 * 3 + 2 by omega) with e | e | e
  · rw [e, c0] at hj; cases hj; rfl
  · rw [e, c1] at hj; cases hj; rfl
  · rw [e, c2] at hj; cases hj; rfl
/-- append(row, others...) -/
theorem run_append_subs {w : World} {ty : TypeId} (base : Nat) (S S2 : Nat → Prop) (v src : Value) (ts us : List T) (hown : SO w base S v ts) (hsrc : SubR w S2 src us) (hap : ∀ y, S2 y → v.ownBlock ≠ some y) (hb : ts.length + us.length ≤ 1048576) (hbase : base ≤ w.heap.size) :
    ∃ v' w', (Builtin.append_ #[96, 96] ty #[v, src]).run Tryd.prog w = .ok v' w' ∧ SO w' base (fun y => (S y ∨ S2 y) ∧ y < w.heap.size) v' (ts ++ us) ∧ w.grownBy w' v.ownBlock ∧ (v'.ownBlock = v.ownBlock ∨ v'.ownBlock = some w.heap.size) := by
  obtain ⟨i, hi, hz, hsz, hby⟩ := info_of infoSub
  obtain ⟨L, P, K, h1, h2, h3⟩ := hown
  obtain ⟨L2, P2, K2, k1, k2⟩ := hsrc
  obtain ⟨v', w', hr, ho, hg, ha⟩ := run_append_row_at (P := Tryd.prog) (w := w) base 96 ty 98 i _ 3 56 Tryd.underlying96 hi hz hsz hby rfl (by decide) v ts.length _ h1 S2 src us.length _ k1 (by rw [ncs_length, mkV_length]) (mkV_one k2) (by unfold maxLen; omega) (by omega) hbase
  have hon : Only (fun y => v.ownBlock = some y) w w' := only_of_grown hg (fun _ e => e)
  rw [← ncs_append, mkV_app] at ho
  refine ⟨v', w', hr, ⟨_, _, _, by rw [List.length_append]; exact ho, fun j hj => ?_, fun y hy => ?_⟩, hg, ha⟩
  · rw [List.length_append] at hj
    by_cases e : j < ts.length
    · simp only [e, if_true]
      rw [tAt_app1 e]
      exact ((h2 j e).mono (R := fun y => (S y ∨ S2 y) ∧ y < w.heap.size) (fun y hy hl => ⟨.inl hy, hl⟩)).to hon (fun y hy _ => hy.1.elim (h3 y) (hap y))
    · simp only [e, if_false]
      rw [tAt_app2 (by omega)]
      exact ((k2 (j - ts.length) (by omega)).mono (R := fun y => (S y ∨ S2 y) ∧ y < w.heap.size) (fun y hy hl => ⟨.inr hy, hl⟩)).to hon (fun y hy _ => hy.1.elim (h3 y) (hap y))
  · rcases ha with e | e
    · rw [e]; exact hy.1.elim (h3 y) (hap y)
    · rw [e]; intro h; cases h; exact absurd hy.2 (Nat.lt_irrefl _)
theorem wpList_append_subs {w : World} {ops : Array Oper} {rest : List Oper} {o : Oper} {a : Act} {Q : Exit → Act → World → Prop} (hgd : o.guard = none) (s x : Operand)
    (ho : o.op = .call { callee := .builtin .append, args := #[s, x], argTypes := #[96, 96] }) (base : Nat) (S S2 : Nat → Prop) (v src : Value) (ts us : List T) (hs : a.eval s = v) (hown : SO w base S v ts) (hx : a.eval x = src) (hsrc : SubR w S2 src us) (hap : ∀ y, S2 y → v.ownBlock ≠ some y) (hb : ts.length + us.length ≤ 1048576) (hbase : base ≤ w.heap.size)
    (h : ∀ v' w', SO w' base (fun y => (S y ∨ S2 y) ∧ y < w.heap.size) v' (ts ++ us) → w.grownBy w' v.ownBlock → (v'.ownBlock = v.ownBlock ∨ v'.ownBlock = some w.heap.size) → wpList Tryd.prog ops Q rest (a.put o.dst v') w') : wpList Tryd.prog ops Q (o :: rest) a w := by
  refine wpList_plain hgd fun K hK => ?_
  obtain ⟨v', w', hr, h2, h3, h4⟩ := run_append_subs (w := w) (ty := o.type) base S S2 v src ts us hown hsrc hap hb hbase
  unfold Oper.wp execOp
  simp only [ho, resolve, invoke, builtin, Sem.run_bind, Sem.run_pure, Result.andThen_ok, List.map_toArray, List.map_cons, List.map_nil, hs, hx, hr]
  exact hK _ _ (h v' w' h2 h3 h4)
theorem step_append_subs {w : World} {ops : Array Oper} {o : Oper} {a : Act} {K : Act → World → Prop} {Q : Exit → Act → World → Prop} {E : Prop} (hgd : o.guard = none) (s x : Operand)
    (ho : o.op = .call { callee := .builtin .append, args := #[s, x], argTypes := #[96, 96] }) (base : Nat) (S S2 : Nat → Prop) (v src : Value) (ts us : List T) (hs : a.eval s = v) (hown : SO w base S v ts) (hx : a.eval x = src) (hsrc : SubR w S2 src us) (hap : ∀ y, S2 y → v.ownBlock ≠ some y) (hb : ts.length + us.length ≤ 1048576) (hbase : base ≤ w.heap.size)
    (h : ∀ v' w', SO w' base (fun y => (S y ∨ S2 y) ∧ y < w.heap.size) v' (ts ++ us) → w.grownBy w' v.ownBlock → (v'.ownBlock = v.ownBlock ∨ v'.ownBlock = some w.heap.size) → K (a.put o.dst v') w') :
    if Region.wanted o (yielded ops a.tmps) = true then Oper.wp Tryd.prog o a w K Q else E := by
  have hw : Region.wanted o (yielded ops a.tmps) = true := by simp [Region.wanted, hgd]
  rw [if_pos hw]
  obtain ⟨v', w', hr, h2, h3, h4⟩ := run_append_subs (w := w) (ty := o.type) base S S2 v src ts us hown hsrc hap hb hbase
  unfold Oper.wp execOp
  simp only [ho, resolve, invoke, builtin, Sem.run_bind, Sem.run_pure, Result.andThen_ok, List.map_toArray, List.map_cons, List.map_nil, hs, hx, hr]
  exact h v' w' h2 h3 h4
def LeafPut (w : World) (S : Nat → Prop) (t : T) (k v : ByteArray) (lf : Bool) (ap ak : Option Addr) (np cp nk ck : Nat) : Prop := Calls Tryd.prog 72 #[.agg #[.bool lf, .slice ap np cp, .slice ak nk ck], .agg #[.string k, .string v]] w fun e w' => SubsPost w S (splT (.mk (insS t.ps (k, v) false) [])) e w'
set_option maxHeartbeats 2000000 in
set_option maxRecDepth 20000 in
theorem specPut_leaf (S : Nat → Prop) (ap ak : Option Addr) (np cp ck : Nat) (t : T) (k v : ByteArray) (w : World) (h : Sub w S true (.slice ap np cp) (.slice ak 0 ck) t) (hs : t.ps.length ≤ 4) :
    LeafPut w S t k v true ap ak np cp 0 ck := by
  unfold LeafPut
  obtain ⟨_, _, _, _, _, _, e1, e2, HNP, HNK, b1, b2, -, hP⟩ := h.shape
  cases e1
  cases e2
  have hnp : np ≤ 4 := by rw [HNP.out]; exact hs
  have HP := hid hP
  have HB0 : Hid (Below w.heap.size w ((w.alloc (.cells #[.bool true, .slice ap np cp, .slice ak 0 ck] 98)).alloc (.cells #[.string k, .string v] 91))) := below_new (below_new (Below.refl _ _))
  have KS : Hid (Bk ((w.alloc (.cells #[.bool true, .slice ap np cp, .slice ak 0 ck] 98)).alloc (.cells #[.string k, .string v] 91)) w.heap.size 98 [.bool true, .slice ap np cp, .slice ak 0 ck]) := (Bk.new w 98 [.bool true, .slice ap np cp, .slice ak 0 ck]).alloc _
  have KP : Hid (Bk ((w.alloc (.cells #[.bool true, .slice ap np cp, .slice ak 0 ck] 98)).alloc (.cells #[.string k, .string v] 91)) (w.heap.size + 1) 91 [.string k, .string v]) := by
    have := Bk.new (w.alloc (.cells #[.bool true, .slice ap np cp, .slice ak 0 ck] 98)) 91 [.string k, .string v]
    show Bk _ _ _ _
    simpa using this
  have HSZ : Hid (((w.alloc (.cells #[.bool true, .slice ap np cp, .slice ak 0 ck] 98)).alloc (.cells #[.string k, .string v] 91)).heap.size = w.heap.size + 2) := by show _ = _; simp
  have c0 := KS.out.cell (j := 0) rfl
  have c1 := (KS.out.alloc (.cells #[] 91)).cell (j := 1) rfl
  have HI0 : Hid (LeafI w (((w.alloc (.cells #[.bool true, .slice ap np cp, .slice ak 0 ck] 98)).alloc (.cells #[.string k, .string v] 91)).alloc (.cells #[] 91)) k v (.slice (some ⟨w.heap.size + 2, 0, none⟩) 0 0) []) := by
    refine ⟨KP.out.alloc _, ?_, Below.then' HB0.out (below_new (Below.refl _ _)) (Nat.le_refl _), by simp⟩
    have := ow_new ((w.alloc (.cells #[.bool true, .slice ap np cp, .slice ak 0 ck] 98)).alloc (.cells #[.string k, .string v] 91)) (w.heap.size + 2) (by simp)
    simpa using this
  clear h hs b1 b2 hP
  go_enter Tryd.func72, Tryd.ntmps72
  go_wp2_with fail
  go_loopw [5, 6, 17] (fun x y z wr => ∃ (i : Nat) (a : Option Addr) (n c : Nat) (d : Bool) (l : List PB), i ≤ np ∧ x = .slice a n c ∧ y = .bool d ∧ z = .int .i64 (i : Int) ∧ Hid (LeafI w wr k v (.slice a n c) l) ∧ Hid (l ++ insS (t.ps.drop i) (k, v) d = insS t.ps (k, v) false) ∧ Hid (l.length ≤ i * 2)) (fun _ _ z _ => np - (intOf z).toNat)
  case atStart => exact ⟨0, _, _, _, false, [], Nat.zero_le _, rfl, rfl, rfl, by have := HI0.out; show LeafI _ _ _ _ _ _; simpa using this, rfl, Nat.zero_le _⟩
  case round =>
    obtain ⟨i, a, n, c, d, l, hi, rfl, rfl, rfl, HI, HE, HLL⟩ := hrel
    by_cases hlt : i < np
    · have hlt' : (i : Int) < (np : Int) := by omega
      have hi0 : (0 : Int) ≤ (i : Int) := by omega
      obtain ⟨g, off, hap, _, _, hc⟩ := (HP.out.below HI.out.b).at (by omega)
      subst hap
      obtain ⟨x0, x1⟩ := hc i hlt
      have HD : Hid (t.ps.drop i = pAtB t.ps i :: t.ps.drop (i + 1)) := drop_pAtB (by rw [← HNP.out]; exact hlt)
      rw [HD.out, insS_cons] at HE
      clear hc
      generalize pAtB t.ps i = xx at *
      obtain ⟨y0, y1⟩ := xx
      simp only at x0 x1 HE
      have HIX := hid (HI.out.keep (below_new (o := .cells #[.string y0, .string y1] 91) (w := wr) (Below.refl _ _)))
      have KX := hid (Bk.new wr 91 [.string y0, .string y1])
      have HNX : Hid ((Value.slice a n c).ownBlock ≠ some wr.heap.size) := fun e => by have := (World.ownsRow.lt HI.out.o _ e).2; omega
      have q0 := HIX.out.p.cell (j := 0) rfl
      have q1 := HIX.out.p.cell (j := 1) rfl
      have k0 := KX.out.cell (j := 0) rfl
      have k1 := KX.out.cell (j := 1) rfl
      cases d with
      | false =>
        rcases tri y0 k with ⟨h1, h2, h3, h4⟩ | rfl | ⟨h1, h2, h3, h4⟩
        · -- less
          have HEQ : Hid ((l ++ [(y0, y1)]) ++ insS (t.ps.drop (i + 1)) (k, v) false = insS t.ps (k, v) false) := by
            have hk : klt y0 k = true := h1
            have := HE.out
            show _ = _
            simpa [hk, klt_ne hk] using this
          clear HE
          have HIXa := hid (HIX.out.keep (below_new (o := .cells #[.string y0, .string y1] 91) (w := (wr.alloc (.cells #[.string y0, .string y1] 91))) (Below.refl _ _)))
          have HPa2 : Hid (Pr ((wr.alloc (.cells #[.string y0, .string y1] 91)).alloc (.cells #[.string y0, .string y1] 91)) (fun _ => True) (.slice (some ⟨wr.heap.size + 1, 0, none⟩) 1 1) [(y0, y1)]) := by
            have := (Bk.new (wr.alloc (.cells #[.string y0, .string y1] 91)) 91 [.string y0, .string y1]).pr (n := 1) (ps := [(y0, y1)]) rfl (by omega) (fun _ => True) trivial
            have hz : (wr.alloc (.cells #[.string y0, .string y1] 91)).heap.size = wr.heap.size + 1 := by first | rfl | simp
            rw [hz] at this
            exact this
          go_wp2_with (at_builtin; refine wpList_append_pairs rfl _ _ rfl (w.heap.size + 2) _ _ rfl HIXa.out.o (fun _ => True) _ [(y0, y1)] rfl HPa2.out ?q1 ?q2 ?_)
          case q1 => have := HLL.out; simp; omega
          case q2 => have h9 := HI.out.s; have h8 := HIX.out.s; first | omega | (simp; omega)
          intro v2 w2 hO2 hg2
          obtain ⟨a2, n2, c2, e2, -⟩ := hO2.shape'
          subst e2
          have HI2 := hid (HIXa.out.push hO2 hg2)
          clear hO2 hg2
          go_wp2
          go_roundw
          case rel => exact ⟨i + 1, a2, n2, c2, false, _, by omega, rfl, rfl, by go_num, HI2.out, HEQ.out, by have := HLL.out; show _ ≤ _; simp; omega⟩
          case measure => simp [intOf]; omega
        · -- equal
          have HEQ : Hid ((l ++ [(y0, v)]) ++ insS (t.ps.drop (i + 1)) (y0, v) true = insS t.ps (y0, v) false) := by
            have := HE.out
            show _ = _
            simpa [klt_irrefl y0] using this
          clear HE
          have HIXa := hid (HIX.out.keep (below_new (o := .cells #[.string y0, .string v] 91) (w := (wr.alloc (.cells #[.string y0, .string y1] 91))) (Below.refl _ _)))
          have HPa2 : Hid (Pr ((wr.alloc (.cells #[.string y0, .string y1] 91)).alloc (.cells #[.string y0, .string v] 91)) (fun _ => True) (.slice (some ⟨wr.heap.size + 1, 0, none⟩) 1 1) [(y0, v)]) := by
            have := (Bk.new (wr.alloc (.cells #[.string y0, .string y1] 91)) 91 [.string y0, .string v]).pr (n := 1) (ps := [(y0, v)]) rfl (by omega) (fun _ => True) trivial
            have hz : (wr.alloc (.cells #[.string y0, .string y1] 91)).heap.size = wr.heap.size + 1 := by first | rfl | simp
            rw [hz] at this
            exact this
          go_wp2_with (at_builtin; refine wpList_append_pairs rfl _ _ rfl (w.heap.size + 2) _ _ rfl HIXa.out.o (fun _ => True) _ [(y0, v)] rfl HPa2.out ?q1 ?q2 ?_)
          case q1 => have := HLL.out; simp; omega
          case q2 => have h9 := HI.out.s; have h8 := HIX.out.s; first | omega | (simp; omega)
          intro v2 w2 hO2 hg2
          obtain ⟨a2, n2, c2, e2, -⟩ := hO2.shape'
          subst e2
          have HI2 := hid (HIXa.out.push hO2 hg2)
          have z0 := (bk_grown (KX.out.alloc (.cells #[.string y0, .string v] 91)) hg2 HNX.out).cell (j := 0) rfl
          have z1 := HI2.out.p.cell (j := 0) rfl
          clear hO2 hg2
          go_wp2
          go_roundw
          case rel => exact ⟨i + 1, a2, n2, c2, true, _, by omega, rfl, rfl, by go_num, HI2.out, HEQ.out, by have := HLL.out; show _ ≤ _; simp; omega⟩
          case measure => simp [intOf]; omega
        · -- greater
          have HEQ : Hid (l ++ [(k, v), (y0, y1)] ++ insS (t.ps.drop (i + 1)) (k, v) true = insS t.ps (k, v) false) := by
            have hk : klt y0 k = false := h1
            have hne : y0 ≠ k := fun e => by rw [e] at h2; exact absurd h2 (by rw [less_irrefl]; simp)
            have := HE.out
            show _ = _
            simpa [hk, hne] using this
          clear HE
          have HIXa := hid (HIX.out.keep (below_new (o := .cells #[.string k, .string v] 91) (w := (wr.alloc (.cells #[.string y0, .string y1] 91))) (Below.refl _ _)))
          have HPa2 : Hid (Pr ((wr.alloc (.cells #[.string y0, .string y1] 91)).alloc (.cells #[.string k, .string v] 91)) (fun _ => True) (.slice (some ⟨wr.heap.size + 1, 0, none⟩) 1 1) [(k, v)]) := by
            have := (Bk.new (wr.alloc (.cells #[.string y0, .string y1] 91)) 91 [.string k, .string v]).pr (n := 1) (ps := [(k, v)]) rfl (by omega) (fun _ => True) trivial
            have hz : (wr.alloc (.cells #[.string y0, .string y1] 91)).heap.size = wr.heap.size + 1 := by first | rfl | simp
            rw [hz] at this
            exact this
          go_wp2_with (at_builtin; refine wpList_append_pairs rfl _ _ rfl (w.heap.size + 2) _ _ rfl HIXa.out.o (fun _ => True) _ [(k, v)] rfl HPa2.out ?q1 ?q2 ?_)
          case q1 => have := HLL.out; simp; omega
          case q2 => have h9 := HI.out.s; have h8 := HIX.out.s; first | omega | (simp; omega)
          intro v2 w2 hO2 hg2
          obtain ⟨a2, n2, c2, e2, -⟩ := hO2.shape'
          subst e2
          have HI2 := hid (HIXa.out.push hO2 hg2)
          have KX2 := hid (bk_grown (KX.out.alloc (.cells #[.string k, .string v] 91)) hg2 HNX.out)
          have z0 := KX2.out.cell (j := 0) rfl
          have z2 := KX2.out.cell (j := 1) rfl
          have z1 := HI2.out.p.cell (j := 0) rfl
          clear hO2 hg2
          have HI2a := hid (HI2.out.keep (below_new (o := .cells #[.string y0, .string y1] 91) (w := w2) (Below.refl _ _)))
          have HPa3 : Hid (Pr (w2.alloc (.cells #[.string y0, .string y1] 91)) (fun _ => True) (.slice (some ⟨w2.heap.size, 0, none⟩) 1 1) [(y0, y1)]) := by
            have := (Bk.new w2 91 [.string y0, .string y1]).pr (n := 1) (ps := [(y0, y1)]) rfl (by omega) (fun _ => True) trivial
            have hz : w2.heap.size = w2.heap.size := by first | rfl | simp
            rw [hz] at this
            exact this
          go_wp2_with (at_builtin; refine wpList_append_pairs rfl _ _ rfl (w.heap.size + 2) _ _ rfl HI2a.out.o (fun _ => True) _ [(y0, y1)] rfl HPa3.out ?q1 ?q2 ?_)
          case q1 => have := HLL.out; simp; omega
          case q2 => have h9 := HI.out.s; have h8 := HI2.out.s; first | omega | (simp; omega)
          intro v3 w3 hO3 hg3
          obtain ⟨a3, n3, c3, e3, -⟩ := hO3.shape'
          subst e3
          have HI3 := hid (HI2a.out.push hO3 hg3)
          clear hO3 hg3
          go_wp2
          go_roundw
          case rel => exact ⟨i + 1, a3, n3, c3, true, _, by omega, rfl, rfl, by go_num, HI3.out, HEQ.out, by have := HLL.out; show _ ≤ _; simp; omega⟩
          case measure => simp [intOf]; omega
      | true =>
        rcases tri y0 k with ⟨h1, h2, h3, h4⟩ | rfl | ⟨h1, h2, h3, h4⟩
        · have HEQ : Hid ((l ++ [(y0, y1)]) ++ insS (t.ps.drop (i + 1)) (k, v) true = insS t.ps (k, v) false) := by
            have hk : klt y0 k = true := h1
            have := HE.out
            show _ = _
            simpa [klt_ne hk] using this
          clear HE
          have HIXa := hid (HIX.out.keep (below_new (o := .cells #[.string y0, .string y1] 91) (w := (wr.alloc (.cells #[.string y0, .string y1] 91))) (Below.refl _ _)))
          have HPa2 : Hid (Pr ((wr.alloc (.cells #[.string y0, .string y1] 91)).alloc (.cells #[.string y0, .string y1] 91)) (fun _ => True) (.slice (some ⟨wr.heap.size + 1, 0, none⟩) 1 1) [(y0, y1)]) := by
            have := (Bk.new (wr.alloc (.cells #[.string y0, .string y1] 91)) 91 [.string y0, .string y1]).pr (n := 1) (ps := [(y0, y1)]) rfl (by omega) (fun _ => True) trivial
            have hz : (wr.alloc (.cells #[.string y0, .string y1] 91)).heap.size = wr.heap.size + 1 := by first | rfl | simp
            rw [hz] at this
            exact this
          go_wp2_with (at_builtin; refine wpList_append_pairs rfl _ _ rfl (w.heap.size + 2) _ _ rfl HIXa.out.o (fun _ => True) _ [(y0, y1)] rfl HPa2.out ?q1 ?q2 ?_)
          case q1 => have := HLL.out; simp; omega
          case q2 => have h9 := HI.out.s; have h8 := HIX.out.s; first | omega | (simp; omega)
          intro v2 w2 hO2 hg2
          obtain ⟨a2, n2, c2, e2, -⟩ := hO2.shape'
          subst e2
          have HI2 := hid (HIXa.out.push hO2 hg2)
          clear hO2 hg2
          go_wp2
          go_roundw
          case rel => exact ⟨i + 1, a2, n2, c2, true, _, by omega, rfl, rfl, by go_num, HI2.out, HEQ.out, by have := HLL.out; show _ ≤ _; simp; omega⟩
          case measure => simp [intOf]; omega
        · have HEQ : Hid (l ++ insS (t.ps.drop (i + 1)) (y0, v) true = insS t.ps (y0, v) false) := by
            have := HE.out
            show _ = _
            simpa using this
          clear HE
          go_wp2
          go_roundw
          case rel => exact ⟨i + 1, a, n, c, true, l, by omega, rfl, rfl, by go_num, HIX.out, HEQ.out, by have := HLL.out; show _ ≤ _; omega⟩
          case measure => simp [intOf]; omega
        · have HEQ : Hid ((l ++ [(y0, y1)]) ++ insS (t.ps.drop (i + 1)) (k, v) true = insS t.ps (k, v) false) := by
            have hne : y0 ≠ k := fun e => by rw [e] at h2; exact absurd h2 (by rw [less_irrefl]; simp)
            have := HE.out
            show _ = _
            simpa [hne] using this
          clear HE
          have HIXa := hid (HIX.out.keep (below_new (o := .cells #[.string y0, .string y1] 91) (w := (wr.alloc (.cells #[.string y0, .string y1] 91))) (Below.refl _ _)))
          have HPa2 : Hid (Pr ((wr.alloc (.cells #[.string y0, .string y1] 91)).alloc (.cells #[.string y0, .string y1] 91)) (fun _ => True) (.slice (some ⟨wr.heap.size + 1, 0, none⟩) 1 1) [(y0, y1)]) := by
            have := (Bk.new (wr.alloc (.cells #[.string y0, .string y1] 91)) 91 [.string y0, .string y1]).pr (n := 1) (ps := [(y0, y1)]) rfl (by omega) (fun _ => True) trivial
            have hz : (wr.alloc (.cells #[.string y0, .string y1] 91)).heap.size = wr.heap.size + 1 := by first | rfl | simp
            rw [hz] at this
            exact this
          go_wp2_with (at_builtin; refine wpList_append_pairs rfl _ _ rfl (w.heap.size + 2) _ _ rfl HIXa.out.o (fun _ => True) _ [(y0, y1)] rfl HPa2.out ?q1 ?q2 ?_)
          case q1 => have := HLL.out; simp; omega
          case q2 => have h9 := HI.out.s; have h8 := HIX.out.s; first | omega | (simp; omega)
          intro v2 w2 hO2 hg2
          obtain ⟨a2, n2, c2, e2, -⟩ := hO2.shape'
          subst e2
          have HI2 := hid (HIXa.out.push hO2 hg2)
          clear hO2 hg2
          go_wp2
          go_roundw
          case rel => exact ⟨i + 1, a2, n2, c2, true, _, by omega, rfl, rfl, by go_num, HI2.out, HEQ.out, by have := HLL.out; show _ ≤ _; simp; omega⟩
          case measure => simp [intOf]; omega
    · have hlt' : ¬ (i : Int) < (np : Int) := by omega
      have HD : Hid (t.ps.drop i = []) := List.drop_eq_nil_of_le (by rw [← HNP.out]; omega)
      rw [HD.out] at HE
      have HSP := hid (fun (w3 : World) (a3 : Option Addr) (n3 c3 : Nat) (l3 : List PB) (hI3 : LeafI w w3 k v (.slice a3 n3 c3) l3) => specSplit_any (fun y => w.heap.size ≤ y) true a3 none n3 c3 0 0 (.mk l3 []) w3 (Sub.leafOf (hI3.o.pr (S := fun y => w.heap.size ≤ y) (fun y _ h1 _ => by omega))))
      have HFN : Hid (∀ (w3 w4 : World) (e : Ending) (a3 : Option Addr) (n3 c3 : Nat) (l3 : List PB), LeafI w w3 k v (.slice a3 n3 c3) l3 → SubsPost w3 (fun y => w.heap.size ≤ y) (splT (.mk l3 [])) e w4 → SubsPost w S (splT (.mk l3 [])) e w4) := by
        rintro w3 w4 e a3 n3 c3 l3 hI ⟨v4, rfl, h1, h2⟩
        have hsz := hI.b.size
        exact ⟨v4, rfl, h1.mono (fun y hy _ => hy.elim .inr (fun h => .inr (by omega))), Below.then' hI.b h2 (Nat.le_refl _)⟩
      cases d with
      | true =>
        have HEQ : Hid (insS t.ps (k, v) false = l) := by have := HE.out; show _ = _; simpa [insS] using this.symm
        clear HE HP
        go_wp2_with fail
        refine (HSP.out wr a n c l HI.out).mono ?_
        rintro e w4 hp
        have hp' := HFN.out _ _ _ _ _ _ _ HI.out hp
        obtain ⟨v4, rfl, h1, h2⟩ := hp'
        have HF := hid h1
        have HF2 := hid h2
        clear hp h1 h2
        go_wp2
        go_ret
        refine ⟨_, rfl, ?_, HF2.out⟩
        rw [HEQ.out]; exact HF.out
      | false =>
        have HEQ : Hid (insS t.ps (k, v) false = l ++ [(k, v)]) := by have := HE.out; show _ = _; simpa [insS] using this.symm
        have q0 := HI.out.p.cell (j := 0) rfl
        have q1 := HI.out.p.cell (j := 1) rfl
        clear HE HP
        have HIa := hid (HI.out.keep (below_new (o := .cells #[.string k, .string v] 91) (w := wr) (Below.refl _ _)))
        have HPa2 : Hid (Pr (wr.alloc (.cells #[.string k, .string v] 91)) (fun _ => True) (.slice (some ⟨wr.heap.size, 0, none⟩) 1 1) [(k, v)]) := by
          have := (Bk.new wr 91 [.string k, .string v]).pr (n := 1) (ps := [(k, v)]) rfl (by omega) (fun _ => True) trivial
          have hz : wr.heap.size = wr.heap.size := by first | rfl | simp
          rw [hz] at this
          exact this
        go_wp2_with (at_builtin; refine wpList_append_pairs rfl _ _ rfl (w.heap.size + 2) _ _ rfl HIa.out.o (fun _ => True) _ [(k, v)] rfl HPa2.out ?q1 ?q2 ?_)
        case q1 => have := HLL.out; simp; omega
        case q2 => have h9 := HI.out.s; have h8 := HI.out.s; first | omega | (simp; omega)
        intro v2 w2 hO2 hg2
        obtain ⟨a2, n2, c2, e2, -⟩ := hO2.shape'
        subst e2
        have HI2 := hid (HIa.out.push hO2 hg2)
        clear hO2 hg2
        go_wp2_with fail
        refine (HSP.out _ _ _ _ _ HI2.out).mono ?_
        rintro e w4 hp
        have hp' := HFN.out _ _ _ _ _ _ _ HI2.out hp
        obtain ⟨v4, rfl, h1, h2⟩ := hp'
        have HF := hid h1
        have HF2 := hid h2
        clear hp h1 h2
        go_wp2
        go_ret
        refine ⟨_, rfl, ?_, HF2.out⟩
        rw [HEQ.out]; exact HF.out
end Go.Proofs.YtcpdedpgjaimkaaDoor
/-
  l03Put of the specification: it puts as the plain function puts.
-/
namespace Go.Proofs.YtcpdedpgjaimkaaDoor
open Go.RowKit
theorem below_dq (w : World) (q : Nat) : Below w.heap.size w (w.drewN q) := ⟨rfl, rfl, rfl, Nat.le_refl _, fun _ _ => rfl⟩
structure SpB (w wr : World) (pv kv : Value) (k v : ByteArray) : Prop where
  s : Bk wr w.heap.size 98 [.bool false, pv, kv]
  p : Bk wr (w.heap.size + 1) 91 [.string k, .string v]
  b : Below w.heap.size w wr
  z : w.heap.size + 2 ≤ wr.heap.size
theorem SpB.keep {w wr w1 : World} {pv kv : Value} {k v : ByteArray} (h : SpB w wr pv kv k v) (hb : Below wr.heap.size wr w1) : SpB w w1 pv kv k v := ⟨h.s.below hb, h.p.below hb, Below.then' h.b hb (Nat.le_refl _), Nat.le_trans h.z hb.size⟩
theorem SpB.grow {w u w2 : World} {pv kv : Value} {k v : ByteArray} {o : Option Nat} (h : SpB w u pv kv k v) (hg : u.grownBy w2 o) (ho : ∀ x, o = some x → w.heap.size + 2 ≤ x) : SpB w w2 pv kv k v := by
  have hon : Only (fun y => o = some y) u w2 := only_of_grown hg (fun _ e => e)
  exact ⟨h.s.to hon (fun e => by have := ho _ e; omega), h.p.to hon (fun e => by have := ho _ e; omega), h.b.trans (hon.below h.b.size (fun b hb e => by have := ho _ e; omega)), Nat.le_trans h.z hg.size⟩
theorem SO.lo {w : World} {base : Nat} {S : Nat → Prop} {v : Value} {ts : List T} (h : SO w base S v ts) : ∀ x, v.ownBlock = some x → base ≤ x ∧ x < w.heap.size := by
  obtain ⟨L, P, K, h1, _⟩ := h
  exact fun x e => World.ownsRow.lt h1 x e
theorem SO.mono {w : World} {base : Nat} {S R : Nat → Prop} {v : Value} {ts : List T} (h : SO w base S v ts) (hS : ∀ y, S y → y < w.heap.size → R y) (hR : ∀ y, R y → v.ownBlock ≠ some y) : SO w base R v ts := by
  obtain ⟨L, P, K, h1, h2, h3⟩ := h
  exact ⟨L, P, K, h1, fun i hi => (h2 i hi).mono hS, hR⟩
theorem putS_len : ∀ (f : Nat) (t : T) (p : PB), (putS f t p).length ≤ 2
  | 0, t, p => by simp [putS]
  | f + 1, t, p => by
    have hs : ∀ t, (splT t).length ≤ 2 := by
      intro t
      unfold splT
      split
      · simp
      · split <;> simp
    rw [putS]
    split <;> exact hs _
theorem putS_ne : ∀ (f : Nat) (t : T) (p : PB), putS f t p ≠ []
  | 0, t, p => by simp [putS]
  | f + 1, t, p => by
    have hs : ∀ t, splT t ≠ [] := by
      intro t
      unfold splT
      split
      · simp
      · split <;> simp
    rw [putS]
    split <;> exact hs _
set_option maxHeartbeats 2000000 in
set_option maxRecDepth 20000 in
theorem specPut_any : ∀ (f : Nat) (r : Bool) (S : Nat → Prop) (lf : Bool) (ap ak : Option Addr) (np cp nk ck : Nat) (t : T) (k v : ByteArray) (w : World), Sub w S lf (.slice ap np cp) (.slice ak nk ck) t → PutIn f r t →
    Calls Tryd.prog 72 #[.agg #[.bool lf, .slice ap np cp, .slice ak nk ck], .agg #[.string k, .string v]] w fun e w' => SubsPost w S (putS f t (k, v)) e w' := by
  intro f
  induction f with
  | zero => intro r S lf ap ak np cp nk ck t k v w _ g; exact g.ev.elim
  | succ f ih =>
  intro r S lf ap ak np cp nk ck t k v w h g
  obtain ⟨_, _, _, _, _, _, e1, e2, HNP, HNK, b1, b2, hlf, -⟩ := h.shape
  cases e1
  cases e2
  by_cases hk : t.ks = []
  · have hn : nk = 0 := by rw [HNK.out, hk]; rfl
    have hl : lf = true := by rw [hlf, hn]; rfl
    have HF : putS (f + 1) t (k, v) = splT (.mk (insS t.ps (k, v) false) []) := by rw [putS, if_pos hk]
    subst hn hl
    rw [HF]
    exact specPut_leaf S ap ak np cp ck t k v w h (by obtain ⟨ps, ks⟩ := t; cases (show ks = [] from hk); exact g.leaf.2.1)
  · obtain ⟨ps, ks⟩ := t
    simp only [T.ks, T.ps] at hk HNK HNP
    obtain ⟨hp0, hl1, hl2, hf3, he4, ha5⟩ := g.kids hk
    have hn0 : nk ≠ 0 := by rw [HNK.out]; have := List.length_pos_iff.2 hk; omega
    have hl : lf = false := by rw [hlf]; exact decide_eq_false hn0
    subst hl
    obtain ⟨hq, _, _⟩ := kidOf_spec k hk
    have hw := wayOf_eq (k := k) hk hf3 ha5
    have HF : Hid (putS (f + 1) (.mk ps ks) (k, v) = splT (.mk [] (ks.take (wayOf ks k) ++ putS f (tAt ks (wayOf ks k)) (k, v) ++ ks.drop (wayOf ks k + 1)))) := by show _ = _; rw [putS]; simp only [T.ks, hk, if_false]
    have HKG := hid (g.kid hk k)
    rw [← hw] at hq HKG
    have H0 : Hid (Sub w (fun y => S y ∧ y < w.heap.size) false (.slice ap np cp) (.slice ak nk ck) (.mk ps ks)) := h.mono (fun y hy hl => ⟨hy, hl⟩)
    have hcap : nk ≤ ck ∧ ck ≤ 9223372036854775807 := by
      obtain ⟨L, P, K, h1, _⟩ := h.row
      exact h1.len.2
    obtain ⟨hc1, hc2⟩ := hcap
    have hnk : nk ≤ 4 := by rw [HNK.out]; exact hl2
    have HWY := hid (fun (w' : World) (h' : Sub w' (fun y => S y ∧ y < w.heap.size) false (.slice ap np cp) (.slice ak nk ck) (.mk ps ks)) => specWay_any _ false ap ak np cp nk ck (.mk ps ks) k w' h' (by simp only [T.ks]; omega))
    simp only [T.ks] at HWY
    have IH := hid ih
    have hqn : wayOf ks k < nk := by rw [HNK.out]; exact hq
    have HQ := hid hq
    generalize hqq : wayOf ks k = q at *
    clear hqq hw h g ih hlf b1 b2 hp0 hl1 hl2 hf3 he4 ha5 hq
    have HI0 : Hid (SpB w ((w.alloc (.cells #[.bool false, .slice ap np cp, .slice ak nk ck] 98)).alloc (.cells #[.string k, .string v] 91)) (.slice ap np cp) (.slice ak nk ck) k v) := by
      refine ⟨(Bk.new w 98 [.bool false, .slice ap np cp, .slice ak nk ck]).alloc _, ?_, below_new (below_new (Below.refl _ _)), by simp⟩
      have := Bk.new (w.alloc (.cells #[.bool false, .slice ap np cp, .slice ak nk ck] 98)) 91 [.string k, .string v]
      simpa using this
    have s0 := HI0.out.s.cell (j := 0) rfl
    have s1 := HI0.out.s.cell (j := 1) rfl
    have s2 := HI0.out.s.cell (j := 2) rfl
    have p0 := HI0.out.p.cell (j := 0) rfl
    go_enter Tryd.func72, Tryd.ntmps72
    go_wp2_with fail
    refine (HWY.out _ (H0.out.kept HI0.out.b)).mono ?_
    generalize (w.alloc (.cells #[.bool false, .slice ap np cp, .slice ak nk ck] 98)).alloc (.cells #[.string k, .string v] 91) = U at *
    rintro e w1 ⟨rfl, hb⟩
    have HI1 := hid (HI0.out.keep hb)
    have HI2 := hid (HI1.out.keep (below_new (o := .cells #[] 98) (w := w1) (Below.refl _ _)))
    have HSN := hid (so_new w1 (w.heap.size + 2) HI1.out.z)
    clear hb s0 s1 s2 p0 HWY HI0
    have hq1 : (q : Int) ≤ (ck : Int) := by omega
    have hq2 : (0 : Int) ≤ (q : Int) := by omega
    have hq3 : (q : Int) + 1 ≤ (nk : Int) := by omega
    have hq4 : (q : Int) < (nk : Int) := by omega
    have hq5 : (q : Int) ≤ 1000 := by omega
    have HS2 := hid ((H0.out.kept HI2.out.b).row)
    simp only [T.ks] at HS2
    have u2 := HI2.out.s.cell (j := 2) rfl
    go_wp2_with (at_builtin; refine wpList_append_subs rfl _ _ rfl (w.heap.size + 2) _ (fun y => S y ∧ y < w.heap.size) (.slice (some ⟨w1.heap.size, 0, none⟩) 0 0) _ [] (ks.take q) rfl HSN.out rfl (HS2.out.take (by omega)) ?q0 ?q1 ?q2 ?_)
    case q0 => intro y hy e; have e' : w1.heap.size = y := by simpa [Value.ownBlock] using e
               have := HI1.out.z; have := hy.2; omega
    case q1 => rw [List.length_take]; simp; omega
    case q2 => have := HI1.out.z; first | omega | (simp; omega)
    intro v3 w3 hO3 hg3 ha3
    obtain ⟨a3, n3, c3, e3, -⟩ := hO3.shape
    subst e3
    have hlo3 := hO3.lo
    have HI3 := hid (HI2.out.grow hg3 (fun x e => by cases e; exact HI1.out.z))
    have HS3 : Hid (SO w3 (w.heap.size + 2) (fun y => S y ∧ y < w.heap.size) (.slice a3 n3 c3) (ks.take q)) := hO3.mono (fun y hy _ => hy.1) (fun y hy e => by have := (hlo3 y e).1; have := hy.2; omega)
    have hsz3 : w1.heap.size + 1 ≤ w3.heap.size := by have := hg3.size; simpa using this
    have HZ3 := hid hsz3
    clear hO3 hg3 ha3 HSN HS2 HI2 u2 hlo3 hsz3
    have HKD := hid (H0.out.kept HI3.out.b)
    obtain ⟨g, off, hak, _, _, hkid⟩ := HKD.out.kids (by omega)
    subst hak
    obtain ⟨l9, ap9, np9, cp9, ak9, nk9, ck9, x0, x1, x2, hs9⟩ := hkid q hqn
    simp only [T.ks] at hs9
    have HS9 := hid hs9
    clear hkid hs9 HKD
    have t2 := HI3.out.s.cell (j := 2) rfl
    have p0 := HI3.out.p.cell (j := 0) rfl
    have p1 := HI3.out.p.cell (j := 1) rfl
    have HPL := hid (putS_len f (tAt ks q) (k, v))
    have HAP : Hid (∀ y, (S y ∧ y < w.heap.size) ∨ w3.drew.heap.size ≤ y → (Value.slice a3 n3 c3).ownBlock ≠ some y) := by
      rintro y (h | h) e
      · have := HS3.out.lo y e; have := h.2; omega
      · have := (HS3.out.lo y e).2
        have h2 : w3.heap.size ≤ y := h
        omega
    have HTL : Hid ((ks.take q).length + (putS f (tAt ks q) (k, v)).length ≤ 1048576) := by have := HPL.out; rw [List.length_take]; show _ ≤ _; omega
    have HST : Hid (∀ (w4 : World), Below w3.drew.heap.size w3.drew w4 → SO w4 (w.heap.size + 2) (fun y => S y ∧ y < w.heap.size) (.slice a3 n3 c3) (ks.take q)) := fun w4 hb => HS3.out.kept (Below.then' (below_drew w3) hb (Nat.le_refl _))
    have HZZ : Hid (∀ (w4 : World), Below w3.drew.heap.size w3.drew w4 → w.heap.size + 2 ≤ w4.heap.size) := fun w4 hb => Nat.le_trans HI3.out.z hb.size
    have HFIN : Hid (∀ (w4 w5 : World) (a5 : Option Addr) (n5 c5 : Nat) (R : Nat → Prop), Below w3.drew.heap.size w3.drew w4 → SO w5 (w.heap.size + 2) R (.slice a5 n5 c5) (ks.take q ++ putS f (tAt ks q) (k, v)) → (∀ y, R y → (S y ∧ y < w.heap.size) ∨ w3.heap.size ≤ y) → w4.grownBy w5 (Value.slice a3 n3 c3).ownBlock →
        SO w5 (w.heap.size + 2) (fun y => (S y ∧ y < w.heap.size) ∨ (w3.heap.size ≤ y ∧ y < w5.heap.size ∧ (Value.slice a5 n5 c5).ownBlock ≠ some y)) (.slice a5 n5 c5) (ks.take q ++ putS f (tAt ks q) (k, v)) ∧ SpB w w5 (.slice ap np cp) (.slice (some ⟨g, off, none⟩) nk ck) k v) := by
      intro w4 w5 a5 n5 c5 R hb hO hR hg
      have hlo := hO.lo
      refine ⟨?_, (HI3.out.keep (Below.then' (below_drew w3) hb (Nat.le_refl _))).grow hg (fun x e => (HS3.out.lo x e).1)⟩
      obtain ⟨L, P, K, h1, h2, h3⟩ := hO
      refine ⟨L, P, K, h1, fun i hi => (h2 i hi).mono (fun y hy hl => ?_), ?_⟩
      · rcases hR y hy with h | h
        · exact .inl h
        · exact .inr ⟨h, hl, h3 y hy⟩
      · rintro y (h | h)
        · intro e; have := (hlo y e).1; have := h.2; omega
        · exact h.2.2
    have HPT := hid (fun (w' : World) (h' : Sub w' (fun y => S y ∧ y < w.heap.size) l9 (.slice ap9 np9 cp9) (.slice ak9 nk9 ck9) (tAt ks q)) => IH.out false _ l9 ap9 ak9 np9 cp9 nk9 ck9 (tAt ks q) k v w' h' HKG.out)
    go_wp2_with fail
    go_cut [10] (fun x v2 => ∃ (a5 : Option Addr) (n5 c5 : Nat), x = .slice a5 n5 c5 ∧ Hid (SO v2 (w.heap.size + 2) (fun y => (S y ∧ y < w.heap.size) ∨ (w3.heap.size ≤ y ∧ y < v2.heap.size ∧ (Value.slice a5 n5 c5).ownBlock ≠ some y)) (.slice a5 n5 c5) (ks.take q ++ putS f (tAt ks q) (k, v))) ∧ Hid (SpB w v2 (.slice ap np cp) (.slice (some ⟨g, off, none⟩) nk ck) k v))
    case first =>
      go_region_law (first
        | (go_simp; go_at_call 72; refine (HPT.out _ (HS9.out.kept (below_drew _))).mono ?_; rintro e w4 ⟨v4, rfl, hR4, hb4⟩)
        | (refine step_append_subs rfl _ _ rfl (w.heap.size + 2) _ _ (.slice a3 n3 c3) _ (ks.take q) (putS f (tAt ks q) (k, v)) rfl (HST.out _ hb4) rfl hR4 HAP.out HTL.out (HZZ.out _ hb4) ?_; intro v5 w5 hO5 hg5 ha5; obtain ⟨a5, n5, c5, e5, -⟩ := hO5.shape; subst e5))
      all_goals (go_wp2_with fail; go_meet)
      all_goals exact ⟨a5, n5, c5, rfl, (HFIN.out _ _ _ _ _ _ hb4 hO5 (fun y hy => by rcases hy.1 with h | h | h; exact .inl h; exact .inl h; exact .inr h) hg5).1, (HFIN.out _ _ _ _ _ _ hb4 hO5 (fun y hy => by rcases hy.1 with h | h | h; exact .inl h; exact .inl h; exact .inr h) hg5).2⟩
    case rest =>
      obtain ⟨a5, n5, c5, rfl, HS5, HI5⟩ := hcut
      clear HFIN HPT HST HZZ HAP x0 x1 x2 t2 p0 p1 HS9 HTL
      have t2 := HI5.out.s.cell (j := 2) rfl
      have HS6 := hid ((H0.out.kept HI5.out.b).row)
      simp only [T.ks] at HS6
      have HDL : Hid ((ks.take q ++ putS f (tAt ks q) (k, v)).length + (ks.drop (q + 1)).length ≤ 1048576) := by
        have := HPL.out
        have := HNK.out
        rw [List.length_append, List.length_take, List.length_drop]; show _ ≤ _; omega
      have HAP : Hid (∀ y, S y ∧ y < w.heap.size → (Value.slice a5 n5 c5).ownBlock ≠ some y) := fun y hy e => by have := (HS5.out.lo y e).1; have := hy.2; omega
      have HSP := hid (fun (w6 : World) (R : Nat → Prop) (a6 : Option Addr) (n6 c6 : Nat) (L : List T) (hL : L ≠ []) (h6 : SubR w6 R (.slice a6 n6 c6) L) => specSplit_any R false none a6 0 0 n6 c6 (.mk [] L) w6 (h6.sub hL))
      have HNE : Hid (ks.take q ++ putS f (tAt ks q) (k, v) ++ ks.drop (q + 1) ≠ []) := by
        intro e
        have h1 := List.append_eq_nil_iff.1 e
        have h2 := List.append_eq_nil_iff.1 h1.1
        exact putS_ne f _ _ h2.2
      have HFN : Hid (∀ (w6 w7 : World) (R : Nat → Prop) (v6 : Value) (e : Ending), SO w6 (w.heap.size + 2) R v6 (ks.take q ++ putS f (tAt ks q) (k, v) ++ ks.drop (q + 1)) → (∀ y, R y → S y ∨ w.heap.size ≤ y) → SpB w w6 (.slice ap np cp) (.slice (some ⟨g, off, none⟩) nk ck) k v → SubsPost w6 (fun y => S y ∨ w.heap.size ≤ y) (splT (.mk [] (ks.take q ++ putS f (tAt ks q) (k, v) ++ ks.drop (q + 1)))) e w7 → SubsPost w S (putS (f + 1) (.mk ps ks) (k, v)) e w7) := by
        rintro w6 w7 R v6 e hO hR hI ⟨v7, rfl, h1, h2⟩
        have hsz := hI.b.size
        refine ⟨v7, rfl, ?_, Below.then' hI.b h2 (Nat.le_refl _)⟩
        rw [HF.out]
        exact h1.mono (fun y hy _ => hy.elim id (fun h => .inr (by omega)))
      have hz3 : w.heap.size ≤ w3.heap.size := by have := HI3.out.z; omega
      have HR5 : Hid (∀ (y z : Nat), ((S y ∧ y < w.heap.size ∨ w3.heap.size ≤ y ∧ y < wc.heap.size ∧ (Value.slice a5 n5 c5).ownBlock ≠ some y) ∨ S y ∧ y < w.heap.size) ∧ y < z → S y ∨ w.heap.size ≤ y) := by
        rintro y z ⟨(h | h) | h, -⟩
        · exact .inl h.1
        · right; omega
        · exact .inl h.1
      have HG6 : Hid (∀ (w6 : World), wc.grownBy w6 (Value.slice a5 n5 c5).ownBlock → SpB w w6 (.slice ap np cp) (.slice (some ⟨g, off, none⟩) nk ck) k v) := fun w6 hg => HI5.out.grow hg (fun x e => (HS5.out.lo x e).1)
      have HLO6 : Hid (∀ (w6 : World) (R : Nat → Prop) (v6 : Value) (L : List T), SO w6 (w.heap.size + 2) R v6 L → (∀ y, R y → S y ∨ w.heap.size ≤ y) → SubR w6 (fun y => S y ∨ w.heap.size ≤ y) v6 L) := fun w6 R v6 L h hR => h.subR (fun y _ h1 _ => .inr (by omega)) (fun y hy _ => hR y hy)
      have hstep : ∀ (src : Value), SubR wc (fun y => S y ∧ y < w.heap.size) src (ks.drop (q + 1)) → True := fun _ _ => trivial
      clear hstep
      by_cases hcap : 0 < ck - (q + 1)
      · have HDR := hid (HS6.out.drop (m := q + 1) (by omega))
        go_wp2_with (at_builtin; refine wpList_append_subs rfl _ _ rfl (w.heap.size + 2) _ (fun y => S y ∧ y < w.heap.size) (.slice a5 n5 c5) _ _ (ks.drop (q + 1)) rfl HS5.out rfl HDR.out HAP.out HDL.out HI5.out.z ?_)
        intro v6 w6 hO6 hg6 ha6
        obtain ⟨a6, n6, c6, e6, -⟩ := hO6.shape
        subst e6
        have HO6 := hid hO6
        rw [← List.append_assoc] at HO6
        have HI6 := hid (HG6.out _ hg6)
        clear hO6 hg6 ha6 HDR
        go_wp2_with fail
        refine (HSP.out _ _ _ _ _ _ HNE.out (HLO6.out _ _ _ _ HO6.out (fun y hy => HR5.out y _ hy))).mono ?_
        rintro e w7 h7
        obtain ⟨v7, rfl, h8, h9⟩ := HFN.out _ _ _ _ _ HO6.out (fun y hy => HR5.out y _ hy) HI6.out h7
        have H8 := hid h8
        have H9 := hid h9
        clear h7 h8 h9
        go_wp2
        go_ret
        exact ⟨_, rfl, H8.out, H9.out⟩
      · have hck : ck = q + 1 := by omega
        have hnk1 : nk = q + 1 := by omega
        have HDR : Hid (SubR wc (fun y => S y ∧ y < w.heap.size) (.slice (some ⟨g, off, none⟩) 0 0) (ks.drop (q + 1))) := by
          rw [List.drop_eq_nil_of_le (by rw [← HNK.out]; omega)]
          exact ⟨fun _ => false, fun _ => .slice none 0 0, fun _ => .slice none 0 0, ⟨_, 0, rfl, Nat.le_refl _, by omega, fun _ => rfl, fun h => (by cases h), fun h => (by simp at h)⟩, fun i hi => (by simp at hi)⟩
        subst hck hnk1
        go_wp2_with (at_builtin; refine wpList_append_subs rfl _ _ rfl (w.heap.size + 2) _ (fun y => S y ∧ y < w.heap.size) (.slice a5 n5 c5) _ _ (ks.drop (q + 1)) rfl HS5.out rfl HDR.out HAP.out HDL.out HI5.out.z ?_)
        intro v6 w6 hO6 hg6 ha6
        obtain ⟨a6, n6, c6, e6, -⟩ := hO6.shape
        subst e6
        have HO6 := hid hO6
        rw [← List.append_assoc] at HO6
        have HI6 := hid (HG6.out _ hg6)
        clear hO6 hg6 ha6 HDR
        go_wp2_with fail
        refine (HSP.out _ _ _ _ _ _ HNE.out (HLO6.out _ _ _ _ HO6.out (fun y hy => HR5.out y _ hy))).mono ?_
        rintro e w7 h7
        obtain ⟨v7, rfl, h8, h9⟩ := HFN.out _ _ _ _ _ HO6.out (fun y hy => HR5.out y _ hy) HI6.out h7
        have H8 := hid h8
        have H9 := hid h9
        clear h7 h8 h9
        go_wp2
        go_ret
        exact ⟨_, rfl, H8.out, H9.out⟩
end Go.Proofs.YtcpdedpgjaimkaaDoor
