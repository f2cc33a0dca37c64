/-
  impl.TreeOf and spec.TreeOf: the same tree.
-/
import Derived.Test.YtkflneeifllpgaaMw5
import Derived.Test.YtkflneeifllpgaaMw4
import Derived.Test.YtkflneeifllpgaaMw3
import Derived.Test.YtkflneeifllpgaaMw2
import Derived.Test.YtkflneeifllpgaaMw1
namespace Go.Proofs.Ytkflneeifllpgaa
open Go.RowKit
/-- t is a right root whose pairs are l. -/
structure RootI (t : T) (l : List PB) : Prop where
  inn : PutIn t.lv true t
  all : t.all = l
  ok : pOk l = true
theorem rootI_bare : RootI bareT [] := ⟨⟨.inl ⟨rfl, rfl⟩, .inr ⟨rfl, rfl⟩, List.Pairwise.nil⟩, rfl, rfl⟩
theorem RootI.good {t : T} {l : List PB} (g : RootI t l) : t.full true = true ∨ t = bareT := g.inn.full.imp id (fun h => h.2)
theorem full_bare {t : T} {r : Bool} (h : t.full r = true) : t.bare = false := by
  cases hb : t.bare with
  | false => rfl
  | true => rw [bare_iff.1 hb] at h; cases r <;> cases h
theorem RootI.okT {t : T} {l : List PB} (g : RootI t l) : okT (layT t) = some t := by
  rcases g.good with h | h
  · have hb := full_bare h
    have e : layT t = lay 0 t := by rw [layT, if_neg (by rw [hb]; simp)]
    have hl : (layT t).length ≠ 0 := by rw [e, lay_length]; have := T.size_pos t; omega
    exact (okT_good hl).2 ⟨h, ⟨_, g.inn.ev⟩, by rw [g.all]; exact g.ok, e.symm⟩
  · rw [h]; rfl
theorem RootI.put {t : T} {l : List PB} {p : PB} (g : RootI t l) (hok : pOk (l ++ [p]) = true) : RootI (rootT (putF t.lv t p)) (l ++ [p]) := by
  obtain ⟨h1, ⟨h, h2⟩, h3⟩ := rootT_full (putF_out t.lv true t p g.inn)
  have ha := pOk_asc hok
  have he : insP t.all p = l ++ [p] := by
    rw [g.all]
    have := insP_left l (B := []) (p := p) (fun x hx => (List.pairwise_append.1 ha).2.2 x hx p (by simp))
    rw [List.append_nil, insP_nil] at this
    exact this
  rw [he] at h3
  exact ⟨⟨by rw [ev_lv h _ h2]; exact h2, .inl h1, by rw [h3]; exact ha⟩, h3, hok⟩
theorem RootI.putV {t : T} {l : List PB} {p : PB} (g : RootI t l) (hok : pOk (l ++ [p]) = true) : putV (layT t) p.1 p.2 = some (layT (rootT (putF t.lv t p))) := by
  have h1 := g.put hok
  have hm := pOk_mem hok (x := p) (by simp)
  have hl := pOk_len hok
  rw [Go.Proofs.Ytkflneeifllpgaa.putV, g.okT]
  simp only
  rw [if_pos hm, if_neg]
  rw [show ((p.1, p.2) : PB) = p from rfl, h1.all]
  omega
theorem pOk_take {l : List PB} (h : pOk l = true) (j : Nat) : pOk (l.take j) = true := by
  have ha := pOk_asc h
  refine pOk_of (by have := pOk_len h; rw [List.length_take]; omega) (fun x hx => pOk_mem h (List.mem_of_mem_take hx)) ?_
  have := List.take_append_drop j l
  rw [← this] at ha
  exact (List.pairwise_append.1 ha).1
/-- The tree of the first j pairs. -/
def ofT (l : List PB) : Nat → T
  | 0 => bareT
  | j + 1 => rootT (putF (ofT l j).lv (ofT l j) (pAtB l j))
theorem take_pAtB {l : List PB} {j : Nat} (h : j < l.length) : l.take (j + 1) = l.take j ++ [pAtB l j] := by rw [pAtB_lt h, List.take_succ_eq_append_getElem h]
theorem ofT_root {l : List PB} (h : pOk l = true) : ∀ j, j ≤ l.length → RootI (ofT l j) (l.take j)
  | 0, _ => by simpa [ofT] using rootI_bare
  | j + 1, hj => by
    have := ofT_root h j (by omega)
    rw [take_pAtB (by omega), ofT]
    exact this.put (by rw [← take_pAtB (by omega)]; exact pOk_take h (j + 1))
theorem ofT_putV {l : List PB} (h : pOk l = true) {j : Nat} (hj : j < l.length) : putV (layT (ofT l j)) (pAtB l j).1 (pAtB l j).2 = some (layT (ofT l (j + 1))) :=
  (ofT_root h j (by omega)).putV (by rw [← take_pAtB hj]; exact pOk_take h (j + 1))
def ofV (l : List PB) : Option (List NB) := if pOk l = true then some (layT (ofT l l.length)) else none
theorem RootI.size {t : T} {l : List PB} (g : RootI t l) : t.size ≤ 201 ∧ t.ps.length + t.ks.length ≤ 8 := by
  have hs := g.inn.small
  refine ⟨?_, by omega⟩
  rcases g.good with h | h
  · have := full_root h
    have := pOk_len g.ok
    rw [g.all] at *
    omega
  · rw [h]; decide
theorem layT_smallN {t : T} {l : List PB} (g : RootI t l) : smallN (layT t) ∧ (layT t).length ≤ 1048576 := by
  obtain ⟨h1, h2⟩ := layT_small g.good (by have := g.size.1; omega)
  exact ⟨fun i hi => by have := h1 i hi; omega, by omega⟩
def OfPost (o : Option (List NB)) (w : World) (e : Ending) (w' : World) : Prop := ∃ a n c, e = .returned (.tuple #[.agg #[.slice a n c], .bool o.isSome]) ∧ NewN w w' (.slice a n c) (o.getD []) ∧ Below w.heap.size w w'
theorem ofV_small (l : List PB) : smallK ((ofV l).getD []) ∧ ((ofV l).getD []).length ≤ 100000 := by
  unfold ofV
  split
  · rename_i h
    have g := ofT_root h l.length (Nat.le_refl _)
    exact layT_small g.good (by have := g.size.1; omega)
  · exact ⟨fun i hi => by simp at hi, by simp⟩
set_option maxHeartbeats 2000000 in
set_option maxRecDepth 20000 in
theorem specTreeOf_any (S : Nat → Prop) (a : Option Addr) (n c : Nat) (l : List PB) (w : World) (h : Pr w S (.slice a n c) l) :
    Calls Try.prog 72 #[.slice a n c] w fun e w' => OfPost (ofV l) w e w' := by
  obtain ⟨hn, hc1, hc2⟩ := Rw.len h
  have HN := hid hn
  have H0 : Hid (Pr w (fun y => y < w.heap.size) (.slice a n c) l) := Rw.mono h (fun _ _ hl => hl)
  have HB0 := hid (below_new (o := .cells #[.slice none 0 0] 25) (w := w) (Below.refl _ _))
  have K0 := hid (Bk.new w 25 [.slice none 0 0])
  have HNO : Hid (∀ (X : World) (u : Value), Below w.heap.size w X → Below w.heap.size w (X.setCell ⟨w.heap.size, 0, none⟩ u)) := fun X u hb => ⟨hb.os, hb.tape, hb.output, by simp [World.setCell]; exact hb.size, fun i hi => (Below.heap_setCell _ _ _ _ (show i ≠ w.heap.size by omega)).trans (hb.block i hi)⟩
  clear h hn
  go_enter Try.func72, Try.ntmps72
  go_wp2_with fail
  refine (specPairsOk_at _ a n c l _ (H0.out.below HB0.out)).mono ?_
  generalize w.alloc (.cells #[.slice none 0 0] 25) = U at *
  rintro e w1 ⟨rfl, hb⟩
  have HB1 := hid (Below.then' HB0.out hb (Nat.le_refl _))
  have K1 := hid (K0.out.below hb)
  clear hb HB0 K0
  have c0 := K1.out.cell (j := 0) rfl
  have f0 := K1.out.free 0
  cases hp : pOk l with
  | false =>
    have HR : Hid (ofV l = none) := by show _ = _; rw [ofV, hp]; rfl
    have d0 := (K1.out.set 0 (.slice none 0 0)).cell (j := 0) rfl
    clear hp
    go_wp2
    refine bodyPost_ret (v := .tuple #[.agg #[.slice none 0 0], .bool false]) ?_ rfl ?_
    · refine results_tree2 rfl _ _ _ rfl rfl ?_
      exact d0
    · rw [HR.out]; exact ⟨_, _, _, rfl, NewN.nil _ _, HNO.out _ _ HB1.out⟩
  | true =>
    have HP := hid hp
    have HR : Hid (ofV l = some (layT (ofT l l.length))) := by show _ = _; rw [ofV, hp]; rfl
    have hn2 : n ≤ 200 := by rw [HN.out]; exact pOk_len hp
    clear hp
    have HB2 := hid (Below.then' HB1.out (below_new (o := .cells #[.slice none 0 0] 25) (w := w1) (Below.refl _ _)) (Nat.le_refl _))
    have K2 := hid (K1.out.alloc (.cells #[.slice none 0 0] 25))
    have KT := hid (Bk.new w1 25 [.slice none 0 0])
    have hw1 : w.heap.size < w1.heap.size := K1.out.lt
    go_wp2_with fail
    go_loopw [14] (fun i wr => ∃ (j : Nat) (at' : Option Addr) (nt ct : Nat), j ≤ n ∧ i = .int .i64 (j : Int) ∧ Hid (Bk wr w1.heap.size 25 [.slice at' nt ct]) ∧ Hid (Nr wr (fun y => w1.heap.size < y ∧ y < wr.heap.size) (.slice at' nt ct) (layT (ofT l j))) ∧ Hid (Bk wr w.heap.size 25 [.slice none 0 0]) ∧ Hid (Below w.heap.size w wr)) (fun i _ => n - (intOf i).toNat)
    case atStart => exact ⟨0, none, 0, 0, Nat.zero_le _, rfl, KT.out, ⟨[], rfl, rw_nil _ _, fun i hi => by simp [ofT, layT, bare_bareT] at hi⟩, K2.out, HB2.out⟩
    case round =>
      obtain ⟨j, at', nt, ct, hj, rfl, HT, HM, HK, HB⟩ := hrel
      have t0 := HT.out.cell (j := 0) rfl
      have tf := HT.out.free 0
      by_cases hlt : j < n
      · have hlt' : (j : Int) < (n : Int) := by omega
        have hj0 : (0 : Int) ≤ (j : Int) := by omega
        obtain ⟨g, off, hag, _, _, hcl⟩ := (H0.out.below HB.out).at (by omega)
        subst hag
        obtain ⟨x0, x1⟩ := hcl j hlt
        have HRI := hid (layT_smallN (ofT_root HP.out j (by rw [← HN.out]; omega)))
        have HST := hid (ofT_putV HP.out (j := j) (by rw [← HN.out]; exact hlt))
        clear hcl
        generalize pAtB l j = pp at *
        obtain ⟨y0, y1⟩ := pp
        simp only at x0 x1 HST
        have hb := below_new (o := .cells #[.string y0, .string y1] 35) (w := wr) (Below.refl _ _)
        have KX := hid (Bk.new wr 35 [.string y0, .string y1])
        have HTx := hid (HT.out.below hb)
        have HMx := hid (HM.out.below hb)
        have HBx := hid (Below.then' HB.out hb (Nat.le_refl _))
        have HKx := hid (HK.out.below hb)
        have k0 := KX.out.cell (j := 0) rfl
        have k1 := KX.out.cell (j := 1) rfl
        have tx := HTx.out.cell (j := 0) rfl
        clear hb
        go_wp2_with fail
        refine (specTreePut_any _ HRI.out.2 HRI.out.1 _ at' nt ct y0 y1 _ HMx.out).mono ?_
        generalize wr.alloc (.cells #[.string y0, .string y1] 35) = X at *
        rintro e w2 ⟨a2, n2, c2, rfl, hN2, hb⟩
        rw [HST.out] at hN2
        have hN2 : NewN X w2 (.slice a2 n2 c2) (layT (ofT l (j + 1))) := NewK.new hN2
        have HTy := hid (HTx.out.below hb)
        have HKy := hid (HKx.out.below hb)
        have HBy := hid (Below.then' HBx.out hb (Nat.le_refl _))
        have hXt : w1.heap.size < X.heap.size := HTx.out.lt
        have hon : Only (fun y => y = w1.heap.size) w2 (w2.setCell ⟨w1.heap.size, 0, none⟩ (.slice a2 n2 c2)) := only_set (R := fun y => y = w1.heap.size) rfl _
        have HTn := hid (HTy.out.set 0 (.slice a2 n2 c2))
        have HMn : Hid (Nr (w2.setCell ⟨w1.heap.size, 0, none⟩ (.slice a2 n2 c2)) (fun y => w1.heap.size < y ∧ y < (w2.setCell ⟨w1.heap.size, 0, none⟩ (.slice a2 n2 c2)).heap.size) (.slice a2 n2 c2) (layT (ofT l (j + 1)))) := (Nr.to hN2 hon (fun y hy _ e => by have := hy.1; omega)).mono (fun y hy hl => ⟨by have := hy.1; omega, hl⟩)
        have HKn := hid (HKy.out.to hon (by omega))
        have HBn : Hid (Below w.heap.size w (w2.setCell ⟨w1.heap.size, 0, none⟩ (.slice a2 n2 c2))) := HBy.out.trans (hon.below HBy.out.size (fun b hb e => by omega))
        have ty := HTy.out.cell (j := 0) rfl
        have tyf := HTy.out.free 0
        clear hN2 hb hon
        go_wp2
        go_roundw
        case rel => exact ⟨j + 1, a2, n2, c2, by omega, by go_num, HTn.out, HMn.out, HKn.out, HBn.out⟩
        case measure => simp [intOf]; omega
      · have hlt' : ¬ (j : Int) < (n : Int) := by omega
        have hjl : j = l.length := by rw [← HN.out]; omega
        rw [hjl] at HM
        clear hjl
        have r0 := HK.out.cell (j := 0) rfl
        have rf := HK.out.free 0
        have d1 := (HK.out.set 0 (.slice at' nt ct)).cell (j := 0) rfl
        have HFIN : Hid (NewN w (wr.setCell ⟨w.heap.size, 0, none⟩ (.slice at' nt ct)) (.slice at' nt ct) (layT (ofT l l.length))) := (Nr.to HM.out (only_set (R := fun y => y = w.heap.size) rfl _) (fun y hy _ e => by have := hy.1; omega)).mono (fun y hy hl => ⟨by have := hy.1; omega, hl⟩)
        clear HM
        go_wp2
        refine bodyPost_ret (v := .tuple #[.agg #[.slice at' nt ct], .bool true]) ?_ rfl ?_
        · refine results_tree2 rfl _ _ _ rfl rfl ?_
          exact d1
        · rw [HR.out]; exact ⟨_, _, _, rfl, HFIN.out, HNO.out _ _ HB.out⟩
end Go.Proofs.Ytkflneeifllpgaa
/-
  DrawTreeOf: some pairs that are not too many.
-/
namespace Go.Proofs.Ytkflneeifllpgaa
open Go.RowKit
theorem bthn {u v w : World} (h : Below u.heap.size u v) (k : Below v.heap.size v w) : Below u.heap.size u w := h.trans (k.mono h.size)
theorem below_grown1 {u w w' : World} {X : Nat} (h : Below u.heap.size u w) (hg : w.grownBy w' (some X)) (hX : u.heap.size ≤ X) : Below u.heap.size u w' :=
  ⟨hg.os.trans h.os, hg.tape.trans h.tape, hg.output.trans h.output, Nat.le_trans h.size hg.size, fun i hi => (hg.block i (Nat.lt_of_lt_of_le hi h.size) (by intro e; cases e; omega)).trans (h.block i hi)⟩
theorem own_base {w : World} {base : Nat} {e : TypeId} {size n : Nat} {v : Value} {xs : List Value} (h : w.ownsRow base e size v n xs) (k : Nat) (hk : v.ownBlock = some k) : base ≤ k := by
  rcases h.2 with ⟨rfl, _⟩ | ⟨g, cap, cur, rfl, hb, _⟩
  · cases hk
  · cases hk; exact hb
theorem grown_refl (w : World) (row : Option Nat) : w.grownBy w row := ⟨rfl, rfl, rfl, Nat.le_refl _, fun _ _ _ => rfl⟩
/-- The first pair is written over. -/
theorem Ow.set0 {w : World} {base : Nat} {a : Option Addr} {n c : Nat} {l : List PB} (h : Ow w base (.slice a n c) l) (hp : 0 < n) (p : PB) : ∃ b, a = some ⟨b, 0, none⟩ ∧ base ≤ b ∧ (∀ o, w.frozen? ⟨b, o, none⟩ = false) ∧ Pr ((w.setCell ⟨b, 0, none⟩ (.string p.1)).setCell ⟨b, 1, none⟩ (.string p.2)) (fun _ => True) (.slice a n c) (l.set 0 p) := by
  rcases h.2 with ⟨e, _⟩ | ⟨g, cap, cur, e, hb, hg, h1, h2, h3, h4⟩
  · cases e; omega
  cases e
  have hk : Bk w g 35 cur.toList := by show w.heap[g]? = _; rw [hg]
  refine ⟨g, rfl, hb, fun o => hk.free o, ?_⟩
  have hk2 := (hk.set 0 (.string p.1)).set 1 (.string p.2)
  show Rw _ _ _ (l.set 0 p).length _
  rw [List.length_set]
  refine ⟨_, _, rfl, h1, h2, fun h0 => by omega, fun h => by (cases h), fun _ => ⟨g, 0, rfl, hk2.lt, trivial, fun j u hu => ?_⟩⟩
  rw [Nat.zero_add]
  refine hk2.cell ?_
  rw [pcs_set l p 0 hp] at hu
  have hh : pcs l = cur.toList.take (l.length * 2) := h4.symm
  rw [hh, ← List.take_set, ← List.take_set, List.getElem?_take] at hu
  split at hu
  · exact hu
  · cases hu
/-- Some pairs in an owned row of their own. -/
def ListPost (w : World) (e : Ending) (w' : World) : Prop := ∃ a n c l, e = .returned (.slice a n c) ∧ Pr w' (fun _ => True) (.slice a n c) l ∧ l.length ≤ 200 ∧ Below w.heap.size w w'
end Go.Proofs.Ytkflneeifllpgaa
/-
  DrawTreeAll, DrawTreeDrop: some small list of nodes, some key.
-/
namespace Go.Proofs.Ytkflneeifllpgaa
open Go.RowKit
theorem Bk.grown {v v' : World} {b g : Nat} {T : TypeId} {vs : List Value} (h : Bk v b T vs) (hg : v.grownBy v' (some g)) (hne : b ≠ g) : Bk v' b T vs := h.to (only_of_grown hg (R := fun y => y = g) (fun k e => by cases e; rfl)) hne
/-- A cursor g and a tree's box tb behind it; the tree's rows lie in other blocks behind g. -/
structure Dd (w v : World) (g tb : Nat) (a : Option Addr) (n c : Nat) (ns : List NB) : Prop where
  be : Below w.heap.size w v
  cu : Cu v g
  bk : Bk v tb 25 [.slice a n c]
  nr : Nr v (fun y => g < y ∧ y ≠ tb) (.slice a n c) ns
  sm : smallN ns ∧ ns.length ≤ 1048576
  ng : w.heap.size ≤ g
  nb : g < tb
theorem Dd.draw {w v v' : World} {g tb : Nat} {a : Option Addr} {n c : Nat} {ns : List NB} (h : Dd w v g tb a n c ns) (hg : v.grownBy v' (some g)) (hc : Cu v' g) : Dd w v' g tb a n c ns :=
  ⟨below_grown1 h.be hg h.ng, hc, h.bk.grown hg (by have := h.nb; omega), h.nr.to (only_of_grown hg (R := fun y => y = g) (fun k e => by cases e; rfl)) (fun y hy _ e => by have := hy.1; omega), h.sm, h.ng, h.nb⟩
theorem Dd.below {w v v' : World} {g tb : Nat} {a : Option Addr} {n c : Nat} {ns : List NB} (h : Dd w v g tb a n c ns) (hb : Below v.heap.size v v') : Dd w v' g tb a n c ns :=
  ⟨bthn h.be hb, h.cu.below hb, h.bk.below hb, h.nr.below hb, h.sm, h.ng, h.nb⟩
theorem Dd.new {w w1 w2 : World} {g : Nat} {a : Option Addr} {n c : Nat} {ns : List NB} (hb : Below w.heap.size w w1) (hg1 : g < w1.heap.size) (hw : w.heap.size ≤ g) (hg : w1.grownBy w2 (some g)) (hc : Cu w2 g) (hN : Nr w2 (fun y => w1.heap.size ≤ y) (.slice a n c) ns) (hs : smallN ns ∧ ns.length ≤ 1048576) : Dd w (w2.alloc (.cells #[.slice a n c] 25)) g w2.heap.size a n c ns := by
  have hz := hg.size
  exact ⟨bthn (below_grown1 hb hg hw) (below_alloc _ _), hc.alloc _, Bk.new w2 25 [.slice a n c], (hN.mono (R := fun y => g < y ∧ y ≠ w2.heap.size) (fun y hy hl => ⟨by omega, by omega⟩)).below (below_alloc _ _), hs, hw, by omega⟩
theorem Dd.fin {w v : World} {g tb b : Nat} {a : Option Addr} {n c : Nat} {ns : List NB} (h : Dd w v g tb a n c ns) (hb : b < g) (hw : w.heap.size ≤ b) (o : Nat) (u : Value) : Nr (v.setCell ⟨b, o, none⟩ u) (fun _ => True) (.slice a n c) ns ∧ Below w.heap.size w (v.setCell ⟨b, o, none⟩ u) :=
  ⟨(h.nr.to (only_set (R := fun y => y = b) rfl _) (fun y hy _ e => by have := hy.1; omega)).mono (fun _ _ _ => trivial), h.be.setCell hw _⟩
def DaPost (w : World) (e : Ending) (w' : World) : Prop := ∃ a n c ns, e = .returned (.agg #[.slice a n c]) ∧ Nr w' (fun _ => True) (.slice a n c) ns ∧ (smallN ns ∧ ns.length ≤ 1048576) ∧ Below w.heap.size w w'
def DkPost (w : World) (e : Ending) (w' : World) : Prop := ∃ a n c ns k, e = .returned (.tuple #[.agg #[.slice a n c], .string k]) ∧ Nr w' (fun _ => True) (.slice a n c) ns ∧ (smallN ns ∧ ns.length ≤ 1048576) ∧ Below w.heap.size w w'
end Go.Proofs.Ytkflneeifllpgaa
/-
  spec.TreeGet, impl.TreeGet: the same.
-/
namespace Go.Proofs.Ytkflneeifllpgaa
open Go.RowKit
def getV (ns : List NB) (k : ByteArray) : Option ByteArray := if kOk k = true then fnd (alV ns) k else none
theorem okT_get {ns : List NB} {t : T} (h : okT ns = some t) : GetOk t := by
  have hf := okT_facts h
  by_cases hne : ns.length = 0
  · rw [hf.nil hne]
    exact ⟨List.Pairwise.nil, fun h => absurd rfl h, by decide⟩
  · exact full_getOk ((okT_good hne).1 h).full (pOk_asc hf.ok)
def fndF (l : List PB) (k : ByteArray) : Nat → Nat → Option ByteArray
  | 0, _ => none
  | f + 1, j => if (pAtB l j).1 = k then some (pAtB l j).2 else fndF l k f (j + 1)
theorem fndF_eq (l : List PB) (k : ByteArray) : ∀ (f j : Nat), j + f = l.length → fndF l k f j = fnd (l.drop j) k
  | 0, j, h => by rw [List.drop_eq_nil_of_le (by omega)]; rfl
  | f + 1, j, h => by
    rw [fndF, ← List.getElem_cons_drop (by omega : j < l.length), fnd, List.findSome?_cons, pAtB_lt (by omega)]
    by_cases e : l[j].1 = k
    · simp [e]
    · simp only [e, if_false]
      exact fndF_eq l k f (j + 1) (by omega)
set_option maxHeartbeats 2000000 in
theorem implTreeGet_any (S : Nat → Prop) (an : Option Addr) (nn cn : Nat) (ns : List NB) (k : ByteArray) (w : World) (hN : Nr w S (.slice an nn cn) ns) :
    Calls Try.prog 9 #[.agg #[.slice an nn cn], .string k] w fun e w' => e = .returned (gotV (getV ns k)) ∧ Below w.heap.size w w' := by
  have HN := hid hN
  have h1 := hN.len.2.1
  have h2 := hN.len.2.2
  clear hN
  have HB0 := hid (below_new (o := .cells #[.slice an nn cn] 25) (w := w) (Below.refl _ _))
  go_enter Try.func9, Try.ntmps9
  go_wp2_with fail
  refine (rootOf_any S an nn cn ns _ (HN.out.below HB0.out)).mono ?_
  generalize w.alloc (.cells #[.slice an nn cn] 25) = U at *
  rintro e w1 ⟨hpost, hb1⟩
  have HB1 : Hid (Below w.heap.size w w1) := HB0.out.trans (hb1.mono HB0.out.size)
  clear hb1
  cases hr : okT ns with
  | none =>
    rw [hr] at hpost
    have he : e = .returned (.pointer none) := hpost
    subst he
    have HR : Hid (getV ns k = none) := by
      show _ = _
      rw [getV, alV, hr]
      split <;> rfl
    clear hpost hr
    go_wp2
    go_ret2
    exact ⟨by rw [HR.out]; rfl, HB1.out⟩
  | some t =>
    rw [hr] at hpost
    obtain ⟨b, he, hL⟩ := hpost
    subst he
    have HG := hid (okT_get hr)
    have HL := hid hL
    have HR : Hid (alV ns = t.all) := by show _ = _; rw [alV, hr]
    clear hL hr
    go_wp2_with fail
    refine (implKeyOk_any k w1).mono ?_
    rintro e w2 ⟨rfl, rfl⟩
    cases hk : kOk k with
    | false =>
      have HR2 : Hid (getV ns k = none) := by show _ = _; rw [getV, hk]; rfl
      clear hk
      go_wp2
      go_ret2
      exact ⟨by rw [HR2.out]; rfl, HB1.out⟩
    | true =>
      have HR2 : Hid (getV ns k = fnd t.all k) := by show _ = _; rw [getV, hk, HR.out]; rfl
      clear hk
      go_wp2_with fail
      refine (get_any _ b t k _ HL.out HG.out).mono ?_
      rintro e w3 ⟨rfl, hb⟩
      have HB3 := hid (Below.then' HB1.out hb (Nat.le_refl _))
      clear hb
      generalize fnd t.all k = o at *
      cases o with
      | none =>
        simp only [gotV]
        go_wp2
        go_ret2
        exact ⟨by rw [HR2.out]; rfl, HB3.out⟩
      | some v =>
        simp only [gotV]
        go_wp2
        go_ret2
        exact ⟨by rw [HR2.out]; rfl, HB3.out⟩
set_option maxHeartbeats 4000000 in
theorem specTreeGet_any (ns : List NB) (hlen : ns.length ≤ 1048576) (hsm : smallN ns) (S : Nat → Prop) (an : Option Addr) (nn cn : Nat) (k : ByteArray) (w : World) (hN : Nr w S (.slice an nn cn) ns) :
    Calls Try.prog 11 #[.agg #[.slice an nn cn], .string k] w fun e w' => e = .returned (gotV (getV ns k)) ∧ Below w.heap.size w w' := by
  have h1 := hN.len.2.1
  have h2 := hN.len.2.2
  have HB0 := hid (below_new (o := .cells #[.slice an nn cn] 25) (w := w) (Below.refl _ _))
  have K0 := hid (Bk.new w 25 [.slice an nn cn])
  have H0 := hid (hN.below HB0.out)
  have HLS := hid (And.intro hlen hsm)
  clear hN hlen hsm
  go_enter Try.func11, Try.ntmps11
  go_wp2_with fail
  refine (specKeyOk_any k _).mono ?_
  generalize w.alloc (.cells #[.slice an nn cn] 25) = U at *
  rintro e w1 ⟨rfl, rfl⟩
  cases hk : kOk k with
  | false =>
    have HR : Hid (getV ns k = none) := by show _ = _; rw [getV, hk]; rfl
    clear hk
    go_wp2
    go_ret2
    exact ⟨by rw [HR.out]; rfl, HB0.out⟩
  | true =>
    have HR : Hid (getV ns k = fndF (alV ns) k (alV ns).length 0) := by
      show _ = _
      rw [getV, hk, if_pos rfl, fndF_eq _ _ _ _ (by omega)]
      rfl
    clear hk
    have c0 := K0.out.cell (j := 0) rfl
    go_wp2_with fail
    refine (specTreeAll_any ns HLS.out.1 HLS.out.2 S an nn cn _ H0.out).mono ?_
    rintro e w1 ⟨v, rfl, hO, hb⟩
    obtain ⟨a, n, c, hv, hn⟩ := hO.shape'
    subst hv
    have HB1 := hid (Below.then' HB0.out hb (Nat.le_refl _))
    have HP : Hid (Pr w1 (fun _ => True) (.slice a n c) (alV ns)) := hO.pr (fun _ _ _ _ => trivial)
    have hnl : n ≤ 200 := by rw [hn.out]; exact alV_len ns
    have hnc := (Rw.len HP.out).2
    rw [← hn.out] at HR
    clear hb hO c0 H0 K0 HB0
    generalize alV ns = l at *
    go_wp2_with fail
    go_loopw [14] (fun x wr => ∃ j f : Nat, x = .int .i64 j ∧ j + f = n ∧ Hid (getV ns k = fndF l k f j) ∧ Hid (Below w.heap.size w wr) ∧ Hid (Below w1.heap.size w1 wr)) (fun x _ => n - (intOf x).toNat)
    case atStart => exact ⟨0, n, rfl, by omega, HR.out, HB1.out, Below.refl _ _⟩
    case round =>
      obtain ⟨j, f, rfl, hjf, HF, HBW, HBV⟩ := hrel
      cases f with
      | zero =>
        have hlt : ¬ (j : Int) < (n : Int) := by omega
        go_wp2
        go_ret2
        exact ⟨by rw [HF.out]; rfl, HBW.out⟩
      | succ f =>
        have hlt : (j : Int) < (n : Int) := by omega
        have hj0 : (0 : Int) ≤ (j : Int) := by omega
        have hp := HP.out.below HBV.out
        obtain ⟨b, off, hab, _, _, _⟩ := Rw.at hp (by omega)
        subst hab
        obtain ⟨d0, d1⟩ := Pr.cells hp (i := j) (by have := hn.out; omega)
        clear hp
        have HB2 := hid (HBW.out.alloc HBW.out.size (.cells #[.string (pAtB l j).1, .string (pAtB l j).2] 35))
        have HB3 := hid (HBV.out.alloc HBV.out.size (.cells #[.string (pAtB l j).1, .string (pAtB l j).2] 35))
        have HF2 := HF.out
        rw [fndF] at HF2
        by_cases e : (pAtB l j).1 = k
        · rw [if_pos e] at HF2
          have HF3 := hid HF2
          rw [e] at d0 HB2
          generalize (pAtB l j).2 = z at *
          clear HF2 HF e
          have hkk : (k.toList == k.toList) = true := by simp
          go_wp2
          go_ret2
          exact ⟨by rw [HF3.out]; rfl, HB2.out⟩
        · rw [if_neg e] at HF2
          have HF3 := hid HF2
          have hne := str_beq e
          generalize (pAtB l j).2 = z at *
          generalize (pAtB l j).1 = y at *
          clear HF2 HF e
          go_wp2
          go_roundw
          case rel => exact ⟨j + 1, f, by go_num, by omega, HF3.out, HB2.out, HB3.out⟩
          case measure => simp [intOf]; omega
end Go.Proofs.Ytkflneeifllpgaa
/-
  spec.Depth, impl.Depth: the same.
-/
namespace Go.Proofs.Ytkflneeifllpgaa
open Go.RowKit
theorem below_drewN (w : World) (q : Nat) : Below w.heap.size w (w.drewN q) := ⟨rfl, rfl, rfl, Nat.le_refl _, fun _ _ => rfl⟩
def dpV (ns : List NB) : Int := match okT ns with | none => -1 | some t => t.dpt
end Go.Proofs.Ytkflneeifllpgaa
/-
  Plain facts of trees for the laws.
-/
namespace Go.Proofs.Ytkflneeifllpgaa
open Go.RowKit
theorem TreePost.nr {o : Option (List NB)} {w w' : World} {v : Value} (h : TRow w w' v (o.getD [])) : Nr w' (fun _ => True) v (o.getD []) := by
  obtain ⟨V, h1, _⟩ := h
  exact h1.nr (fun _ _ => trivial)
theorem RootI.alV {t : T} {l : List PB} (g : RootI t l) : alV (layT t) = l := by rw [Go.Proofs.Ytkflneeifllpgaa.alV, g.okT]; exact g.all
theorem RootI.dpV {t : T} {l : List PB} (g : RootI t l) : dpV (layT t) = t.dpt := by rw [Go.Proofs.Ytkflneeifllpgaa.dpV, g.okT]
theorem RootI.deep {t : T} {l : List PB} (g : RootI t l) : (t.dpt = 0 ↔ l.length = 0) ∧ t.dpt ≤ 13 ∧ (2 ≤ t.dpt → 2 ^ (t.dpt - 1) ≤ l.length) := by
  have hlen := pOk_len g.ok
  rcases g.good with h | h
  · have hb := full_bare h
    have hd : t.dpt = t.lv := by rw [T.dpt, hb]; rfl
    have he := g.inn.ev
    have h1 := ev_size _ _ _ he h
    have h2 := full_root h
    have h3 := T.size_pos t
    rw [g.all] at h2
    rw [hd]
    have h13 : t.lv ≤ 13 := by
      rcases Nat.lt_or_ge 13 t.lv with h | h
      · have : 2 ^ 14 ≤ 2 ^ t.lv := Nat.pow_le_pow_right (by omega) h
        omega
      · exact h
    refine ⟨⟨fun e => ?_, fun e => by omega⟩, h13, fun e => ?_⟩
    · exfalso
      rw [e] at he
      cases t
      exact he
    · obtain ⟨m, hm⟩ : ∃ m, t.lv = m + 1 := ⟨t.lv - 1, by omega⟩
      rw [hm] at h1 ⊢
      rw [Nat.pow_succ] at h1
      simp only [Nat.add_sub_cancel]
      have : 1 ≤ 2 ^ m := Nat.one_le_two_pow
      omega
  · have ha := g.all
    rw [h] at ha
    rw [h]
    have : l = [] := ha.symm
    subst this
    exact ⟨⟨fun _ => rfl, fun _ => rfl⟩, by decide, fun h => absurd h (by decide)⟩
theorem okT_root {ns : List NB} {t : T} (h : okT ns = some t) : RootI t t.all := ⟨okT_putIn h, rfl, (okT_facts h).ok⟩
end Go.Proofs.Ytkflneeifllpgaa
/-
  A scan: the pairs of a list in a range, from the first on or from the last on, as many as there is room for. Nothing here speaks of the program.
-/
namespace Go.Proofs.Ytkflneeifllpgaa
open Go.RowKit
def dirL (back : Bool) (l : List PB) : List PB := if back = true then l.reverse else l
/-- What a scan tells. -/
def scV (l : List PB) (lo hi : ByteArray) (most : Int) (back : Bool) : List PB := ((dirL back l).filter fun p => rHas lo hi p.1).take most.toNat
def scJ (l : List PB) (lo hi : ByteArray) (most : Int) (back : Bool) (j : Nat) : List PB := (((dirL back l).take j).filter fun p => rHas lo hi p.1).take most.toNat
theorem dirL_length (back : Bool) (l : List PB) : (dirL back l).length = l.length := by cases back <;> simp [dirL]
theorem dirL_at (l : List PB) (j : Nat) (h : j < l.length) : pAtB (dirL true l) j = pAtB l (l.length - 1 - j) := by
  rw [pAtB_lt (by rw [dirL_length]; exact h), pAtB_lt (by omega)]
  simp [dirL]
theorem scJ_end (l : List PB) (lo hi : ByteArray) (most : Int) (back : Bool) : scJ l lo hi most back l.length = scV l lo hi most back := by
  have e : (dirL back l).take l.length = dirL back l := List.take_of_length_le (by rw [dirL_length]; exact Nat.le_refl _)
  rw [scJ, e]
  rfl
theorem scJ_le (l : List PB) (lo hi : ByteArray) (most : Int) (back : Bool) (j : Nat) : (scJ l lo hi most back j).length ≤ l.length := by
  rw [scJ, List.length_take]
  refine Nat.le_trans (Nat.min_le_right _ _) (Nat.le_trans (List.length_filter_le _ _) ?_)
  rw [List.length_take, dirL_length]
  omega
theorem scJ_step (l : List PB) (lo hi : ByteArray) (most : Int) (back : Bool) (j : Nat) (h : j < l.length) : scJ l lo hi most back (j + 1) =
    if ((scJ l lo hi most back j).length : Int) < most ∧ rHas lo hi (pAtB (dirL back l) j).1 = true then scJ l lo hi most back j ++ [pAtB (dirL back l) j] else scJ l lo hi most back j := by
  have hj : j < (dirL back l).length := by rw [dirL_length]; exact h
  have e : (dirL back l).take (j + 1) = (dirL back l).take j ++ [pAtB (dirL back l) j] := by rw [List.take_succ_eq_append_getElem hj, pAtB_lt hj]
  unfold scJ
  rw [e, List.filter_append]
  generalize ((dirL back l).take j).filter (fun p => rHas lo hi p.1) = X
  cases hp : rHas lo hi (pAtB (dirL back l) j).1 with
  | false => simp [hp]
  | true =>
    simp only [List.filter_cons, hp, if_true, List.filter_nil, and_true, List.length_take]
    by_cases hx : X.length < most.toNat
    · rw [if_pos (by omega), List.take_of_length_le (by simp; omega), List.take_of_length_le (by omega)]
    · rw [if_neg (by omega), List.take_append_of_le_length (by omega)]
end Go.Proofs.Ytkflneeifllpgaa
/-
  Plain facts of trees for the laws: what is found behind a put and behind a drop.
-/
namespace Go.Proofs.Ytkflneeifllpgaa
open Go.RowKit
theorem fnd_cons (x : PB) (l : List PB) (k : ByteArray) : fnd (x :: l) k = if x.1 = k then some x.2 else fnd l k := by
  rw [fnd, List.findSome?_cons]
  by_cases e : x.1 = k
  · simp [e]
  · simp [e, fnd]
theorem fnd_insP (l : List PB) (p : PB) : fnd (insP l p) p.1 = some p.2 := by
  induction l with
  | nil => rw [insP_nil, fnd_cons, if_pos rfl]
  | cons x l ih =>
    cases hk : klt x.1 p.1 with
    | true => rw [insP_lt hk, fnd_cons, if_neg (klt_ne hk), ih]
    | false =>
      by_cases e : x.1 = p.1
      · rw [insP_eq e, fnd_cons, if_pos rfl]
      · rw [insP_gt hk e, fnd_cons, if_pos rfl]
theorem fnd_insP_ne (l : List PB) (p : PB) (q : ByteArray) (h : q ≠ p.1) : fnd (insP l p) q = fnd l q := by
  induction l with
  | nil => rw [insP_nil, fnd_cons, if_neg (Ne.symm h)]
  | cons x l ih =>
    cases hk : klt x.1 p.1 with
    | true => rw [insP_lt hk, fnd_cons, fnd_cons, ih]
    | false =>
      by_cases e : x.1 = p.1
      · rw [insP_eq e, fnd_cons, fnd_cons, if_neg (Ne.symm h), if_neg (by rw [e]; exact Ne.symm h)]
      · rw [insP_gt hk e, fnd_cons, if_neg (Ne.symm h)]
theorem insP_count {l : List PB} (p : PB) (ha : Asc l) : (insP l p).length = l.length + if (fnd l p.1).isSome = true then 0 else 1 := by
  induction l with
  | nil => rw [insP_nil]; rfl
  | cons x l ih =>
    obtain ⟨h1, h2⟩ := List.pairwise_cons.1 ha
    cases hk : klt x.1 p.1 with
    | true => rw [insP_lt hk, fnd_cons, if_neg (klt_ne hk), List.length_cons, ih h2, List.length_cons]; omega
    | false =>
      by_cases e : x.1 = p.1
      · rw [insP_eq e, fnd_cons, if_pos e]; rfl
      · have hlt : klt p.1 x.1 = true := by
          cases hq : klt p.1 x.1 with
          | true => rfl
          | false => exact absurd (key_eq hk hq) e
        have hn : fnd (x :: l) p.1 = none := fnd_none (fun y hy => by
          rcases List.mem_cons.1 hy with rfl | hy
          · exact e
          · exact (klt_ne (klt_trans hlt (h1 y hy))).symm)
        rw [insP_gt hk e, hn]; rfl
theorem mem_fnd {l : List PB} (ha : Asc l) {p : PB} (hp : p ∈ l) : fnd l p.1 = some p.2 := by
  induction l with
  | nil => cases hp
  | cons x l ih =>
    obtain ⟨h1, h2⟩ := List.pairwise_cons.1 ha
    rw [fnd_cons]
    rcases List.mem_cons.1 hp with rfl | hp
    · rw [if_pos rfl]
    · rw [if_neg (klt_ne (h1 p hp)), ih h2 hp]
theorem fnd_delP {l : List PB} (k : ByteArray) (ha : Asc l) : fnd (delP l k) k = none := by
  rw [← delS_eq ha]
  refine fnd_none (fun p hp => ?_)
  have := (List.mem_filter.1 hp).2
  exact of_decide_eq_true this
theorem RootI.ins {t : T} {l : List PB} {p : PB} (g : RootI t l) (hp : kOk p.1 = true ∧ vOk p.2 = true) (hl : (rootT (putF t.lv t p)).all.length ≤ 200) : RootI (rootT (putF t.lv t p)) (insP l p) := by
  obtain ⟨h1, ⟨h, h2⟩, h3⟩ := rootT_full (putF_out t.lv true t p g.inn)
  rw [g.all] at h3
  have ha : Asc (insP l p) := insP_asc (pOk_asc g.ok)
  rw [h3] at hl
  refine ⟨⟨by rw [ev_lv h _ h2]; exact h2, .inl h1, by rw [h3]; exact ha⟩, h3, pOk_of hl (fun x hx => ?_) ha⟩
  rcases insP_mem hx with rfl | hx
  · exact hp
  · exact pOk_mem g.ok hx
theorem RootI.del {t : T} {l : List PB} (g : RootI t l) (k : ByteArray) : RootI (rootD (dropF t.lv t k)) (delP l k) := by
  obtain ⟨h1, ⟨h, h2⟩, h3⟩ := rootD_out (k := k) g.inn
  rw [g.all] at h3
  exact ⟨⟨by rw [ev_lv h _ h2]; exact h2, h1.imp id (fun h => ⟨rfl, h⟩), by rw [h3]; exact delP_asc (pOk_asc g.ok)⟩, h3, pOk_del g.ok⟩
theorem rootD_lv {h : Nat} {t : T} {k : ByteArray} (g : PutIn h true t) : (rootD (dropF h t k)).lv ≤ h := by
  obtain ⟨h1, _⟩ := dropF_out h true t k g
  have he := h1.ev
  generalize dropF h t k = y at *
  obtain ⟨ps, ks⟩ := y
  have er : rootD (.mk ps ks) = if ks.length = 1 then tAt ks 0 else .mk ps ks := rfl
  rw [er]
  split
  · rename_i e
    cases h with
    | zero => exact he.elim
    | succ h =>
      rcases he with ⟨e2, _⟩ | ⟨_, e2⟩
      · subst e2; simp at e
      · rw [ev_lv h _ (e2 _ (tAt_mem (by omega)))]; omega
  · rw [ev_lv h _ he]; exact Nat.le_refl _
theorem dpt_le (t : T) : t.dpt ≤ t.lv := by
  rw [T.dpt]; split
  · exact Nat.zero_le _
  · exact Nat.le_refl _
theorem RootI.shallow {t : T} {l : List PB} (g : RootI t l) (k : ByteArray) : (rootD (dropF t.lv t k)).dpt ≤ t.dpt := by
  rcases g.good with h | h
  · have hd : t.dpt = t.lv := by rw [T.dpt, full_bare h]; rfl
    rw [hd]
    exact Nat.le_trans (dpt_le _) (rootD_lv g.inn)
  · have hl : l = [] := by rw [← g.all, h]; rfl
    subst hl
    have := (g.del k).deep.1.2 (by rw [delP_nil]; rfl)
    omega
/-- What a put gives, where it gives something. -/
structure PutF (l : List PB) (k v : ByteArray) (ms : List NB) : Prop where
  small : smallN ms ∧ ms.length ≤ 1048576
  ok : (Go.Proofs.Ytkflneeifllpgaa.okT ms).isSome = true
  got : getV ms k = some v
  all : (alV ms).length = l.length + if (fnd l k).isSome = true then 0 else 1
  others : ∀ i, i < l.length → (pAtB l i).1 ≠ k → getV ms (pAtB l i).1 = some (pAtB l i).2
theorem pAtB_mem {l : List PB} {i : Nat} (h : i < l.length) : pAtB l i ∈ l := by rw [pAtB_lt h]; exact List.getElem_mem h
theorem putV_facts {ns : List NB} {k v : ByteArray} {ms : List NB} (h : putV ns k v = some ms) : PutF (alV ns) k v ms ∧ kOk k = true := by
  unfold putV at h
  split at h
  · cases h
  · rename_i t ht
    split at h
    · rename_i hkv
      split at h
      · cases h
      · rename_i hl
        cases h
        have g0 := okT_root ht
        have hal : alV ns = t.all := by unfold alV; rw [ht]
        rw [hal]
        have g := g0.ins (p := (k, v)) hkv (by omega)
        have ha := pOk_asc g0.ok
        refine ⟨⟨layT_smallN g, by rw [g.okT]; rfl, ?_, ?_, fun i hi hne => ?_⟩, hkv.1⟩
        · rw [getV, if_pos hkv.1, g.alV]; exact fnd_insP _ (k, v)
        · rw [g.alV]; exact insP_count (k, v) ha
        · rw [getV, if_pos (pOk_mem g0.ok (pAtB_mem hi)).1, g.alV, fnd_insP_ne _ (k, v) _ hne]
          exact mem_fnd ha (pAtB_mem hi)
    · cases h
/-- What a drop gives, where it gives something. -/
structure DropF (l : List PB) (k : ByteArray) (d : Int) (ms : List NB) : Prop where
  small : smallN ms ∧ ms.length ≤ 1048576
  ok : (Go.Proofs.Ytkflneeifllpgaa.okT ms).isSome = true
  got : getV ms k = none
  all : alV ms = delS l k
  deep : dpV ms ≤ d
theorem dropV_facts {ns : List NB} {k : ByteArray} {ms : List NB} (h : dropV ns k = some ms) : DropF (alV ns) k (dpV ns) ms := by
  unfold dropV at h
  split at h
  · cases h
  · rename_i t ht
    split at h
    · rename_i hk
      cases h
      have g0 := okT_root ht
      have hal : alV ns = t.all := by unfold alV; rw [ht]
      have hdp : dpV ns = t.dpt := by unfold dpV; rw [ht]
      rw [hal, hdp]
      have g := g0.del k
      have ha := pOk_asc g0.ok
      refine ⟨layT_smallN g, by rw [g.okT]; rfl, ?_, ?_, ?_⟩
      · rw [getV, if_pos hk, g.alV]; exact fnd_delP k ha
      · rw [g.alV, delS_eq ha]
      · rw [g.dpV]; have := g0.shallow k; omega
    · cases h
/-- Dropping one pair after the other. -/
theorem okT_layT {ns : List NB} {t : T} (h : okT ns = some t) : layT t = ns := by
  by_cases hne : ns.length = 0
  · rw [(okT_facts h).nil hne, List.eq_nil_of_length_eq_zero hne]; rfl
  · have g := (okT_good hne).1 h
    rw [layT, if_neg (by rw [full_bare g.full]; simp)]
    exact g.laid
theorem drop_next {t : T} {l : List PB} {j : Nat} (hj : j < l.length) (g : RootI t (l.drop j)) : dropV (layT t) (pAtB l j).1 = some (layT (rootD (dropF t.lv t (pAtB l j).1))) ∧ RootI (rootD (dropF t.lv t (pAtB l j).1)) (l.drop (j + 1)) := by
  have e : l.drop j = pAtB l j :: l.drop (j + 1) := by rw [pAtB_lt hj]; exact List.drop_eq_getElem_cons hj
  have h2 := g.del (pAtB l j).1
  rw [e, delP_eq rfl] at h2
  refine ⟨?_, h2⟩
  rw [dropV, g.okT]
  simp only
  rw [if_pos (pOk_mem g.ok (x := pAtB l j) (by rw [e]; simp)).1]
theorem RootI.none {t : T} (g : RootI t []) : layT t = [] := by
  have hd := g.deep.1.2 rfl
  rcases g.good with h | h
  · have := g.all
    have h2 := full_root h
    have h3 := T.size_pos t
    rw [this] at h2
    simp at h2
    omega
  · rw [h]; rfl
/-- Scans. -/
theorem scV_all {l : List PB} (hl : l.length ≤ 200) (lo hi : ByteArray) (back : Bool) : scV l lo hi 200 back = (dirL back l).filter fun p => rHas lo hi p.1 := by
  rw [scV]
  refine List.take_of_length_le ?_
  refine Nat.le_trans (List.length_filter_le _ _) ?_
  rw [dirL_length]
  exact hl
theorem scV_back {l : List PB} (hl : l.length ≤ 200) (lo hi : ByteArray) : scV l lo hi 200 true = (scV l lo hi 200 false).reverse := by
  rw [scV_all hl, scV_all hl]
  simp [dirL]
theorem scV_one {l : List PB} (hl : l.length ≤ 200) (lo hi : ByteArray) : scV l lo hi 1 true = (scV l lo hi 200 true).take 1 := by
  rw [scV_all hl]
  rfl
theorem scV_has {l : List PB} (hl : l.length ≤ 200) (lo hi : ByteArray) {i : Nat} (h : i < (scV l lo hi 200 false).length) : rHas lo hi (pAtB (scV l lo hi 200 false) i).1 = true := by
  have := pAtB_mem h
  rw [scV_all hl] at this
  have := (List.mem_filter.1 this).2
  rwa [scV_all hl]
end Go.Proofs.Ytkflneeifllpgaa
/-
  impl.TreeOk: just the trees that are read.
-/
namespace Go.Proofs.Ytkflneeifllpgaa
open Go.RowKit
set_option maxHeartbeats 2000000 in
theorem implTreeOk_any (S : Nat → Prop) (an : Option Addr) (nn cn : Nat) (ns : List NB) (w : World) (hN : Nr w S (.slice an nn cn) ns) :
    Calls Try.prog 12 #[.agg #[.slice an nn cn]] w fun e w' => e = .returned (.bool (okT ns).isSome) ∧ Below w.heap.size w w' := by
  have HN := hid hN
  have h1 := hN.len.2.1
  have h2 := hN.len.2.2
  clear hN
  have HB0 := hid (below_new (o := .cells #[.slice an nn cn] 25) (w := w) (Below.refl _ _))
  go_enter Try.func12, Try.ntmps12
  go_wp2_with fail
  refine (rootOf_any S an nn cn ns _ (HN.out.below HB0.out)).mono ?_
  generalize w.alloc (.cells #[.slice an nn cn] 25) = U at *
  rintro e w1 ⟨hpost, hb1⟩
  have HB1 : Hid (Below w.heap.size w w1) := HB0.out.trans (hb1.mono HB0.out.size)
  clear hb1
  cases hr : okT ns with
  | none =>
    rw [hr] at hpost
    have he : e = .returned (.pointer none) := hpost
    subst he
    have HR := hid hr
    clear hpost hr
    go_wp2
    go_ret
    exact ⟨by rw [HR.out]; rfl, HB1.out⟩
  | some t =>
    rw [hr] at hpost
    obtain ⟨b, he, hL⟩ := hpost
    subst he
    have HR := hid hr
    clear hL hr
    go_wp2
    go_ret
    exact ⟨by rw [HR.out]; rfl, HB1.out⟩
end Go.Proofs.Ytkflneeifllpgaa
/-
  spec.TreeScan.
-/
namespace Go.Proofs.Ytkflneeifllpgaa
open Go.RowKit
theorem wpList_append_pair1 {w : World} {ops : Array Oper} {rest : List Oper} {o : Oper} {a : Act} {Q : Exit → Act → World → Prop} (hgd : o.guard = none) (s x : Operand)
    (ho : o.op = .call { callee := .builtin .append, args := #[s, x], argTypes := #[32, 32] }) (base : Nat) (v : Value) (l : List PB) (hs : a.eval s = v) (hown : Ow w base v l)
    (g : Nat) (y z : ByteArray) (hx : a.eval x = .slice (some ⟨g, 0, none⟩) 1 1) (hB : Bk w g 35 [.string y, .string z]) (hb : l.length ≤ 1048576) (hbase : base ≤ w.heap.size)
    (h : ∀ a' n' c' w', Ow w' base (.slice a' n' c') (l ++ [(y, z)]) → w.grownBy w' v.ownBlock → ((Value.slice a' n' c').ownBlock = v.ownBlock ∨ (Value.slice a' n' c').ownBlock = some w.heap.size) → wpList Try.prog ops Q rest (a.put o.dst (.slice a' n' c')) w') : wpList Try.prog ops Q (o :: rest) a w := by
  obtain ⟨i, hi, hz, hsz, hby⟩ := info_of infoPairI
  refine wpList_append_row_at hgd s x 32 ho base 35 i _ 2 32 Try.underlying32 hi hz hsz hby rfl (by decide) v l.length (pcs l) hs hown (fun _ => True) _ 1 [.string y, .string z] hx (hB.rw (Nat.le_refl _) (by omega) (fun h => by omega) _ trivial) rfl
    (by intro u hu; simp at hu; rcases hu with rfl | rfl <;> rfl) (by unfold maxLen; omega) (by omega) hbase ?_
  intro v' w' k1 k2 k3
  obtain ⟨a', c', rfl⟩ := own_shape k1
  refine h a' _ c' w' ?_ k2 k3
  unfold Ow
  rw [List.length_append, pcs_append]
  exact k1
end Go.Proofs.Ytkflneeifllpgaa
/-
  samePairs of the laws: whether two slices of pairs hold the same.
-/
namespace Go.Proofs.Ytkflneeifllpgaa
open Go.RowKit
end Go.Proofs.Ytkflneeifllpgaa
/-
  What the laws of put and drop hold in hand: the drawn tree and what came of it.
-/
namespace Go.Proofs.Ytkflneeifllpgaa
open Go.RowKit
structure Lw (w v : World) (tb : Nat) (ta : Option Addr) (tn tc : Nat) (ns : List NB) (ub : Nat) (ua : Option Addr) (un uc : Nat) (ms : List NB) : Prop where
  be : Below w.heap.size w v
  bt : Bk v tb 25 [.slice ta tn tc]
  nt : Nr v (fun _ => True) (.slice ta tn tc) ns
  bu : Bk v ub 25 [.slice ua un uc]
  nu : Nr v (fun _ => True) (.slice ua un uc) ms
theorem Lw.below {w v v' : World} {tb : Nat} {ta : Option Addr} {tn tc : Nat} {ns : List NB} {ub : Nat} {ua : Option Addr} {un uc : Nat} {ms : List NB} (h : Lw w v tb ta tn tc ns ub ua un uc ms) (hb : Below v.heap.size v v') : Lw w v' tb ta tn tc ns ub ua un uc ms :=
  ⟨bthn h.be hb, h.bt.below hb, h.nt.below hb, h.bu.below hb, h.nu.below hb⟩
theorem Lw.ct {w v : World} {tb : Nat} {ta : Option Addr} {tn tc : Nat} {ns : List NB} {ub : Nat} {ua : Option Addr} {un uc : Nat} {ms : List NB} (h : Lw w v tb ta tn tc ns ub ua un uc ms) : v.cell? ⟨tb, 0, none⟩ = some (.slice ta tn tc) := h.bt.cell (j := 0) rfl
theorem Lw.cu {w v : World} {tb : Nat} {ta : Option Addr} {tn tc : Nat} {ns : List NB} {ub : Nat} {ua : Option Addr} {un uc : Nat} {ms : List NB} (h : Lw w v tb ta tn tc ns ub ua un uc ms) : v.cell? ⟨ub, 0, none⟩ = some (.slice ua un uc) := h.bu.cell (j := 0) rfl
theorem dpV_bounds (ms ns : List NB) : -1 ≤ dpV ms ∧ dpV ns ≤ 1048576 := by
  constructor
  · unfold dpV
    split
    · exact Int.le_refl _
    · omega
  · unfold dpV
    split
    · omega
    · rename_i t h
      have h1 := (okT_facts h).lv
      have h2 := dpt_le t
      omega
theorem delS_step {l : List PB} {j : Nat} (hj : j < l.length) (k : ByteArray) : delS (l.take (j + 1)) k = if (pAtB l j).1 = k then delS (l.take j) k else delS (l.take j) k ++ [((pAtB l j).1, (pAtB l j).2)] := by
  rw [delS, List.take_succ_eq_append_getElem hj, ← pAtB_lt hj, List.filter_append]
  by_cases e : (pAtB l j).1 = k
  · simp [e, delS]
  · simp [e, delS]
theorem delS_le (l : List PB) (k : ByteArray) : (delS l k).length ≤ l.length := List.length_filter_le _ _
end Go.Proofs.Ytkflneeifllpgaa
/-
  l03Big, DrawTreePut: some small list of nodes, some key, some value.
-/
namespace Go.Proofs.Ytkflneeifllpgaa
open Go.RowKit
theorem Ow.grownOther {w w' : World} {base b : Nat} {T : TypeId} {vs : List Value} {v : Value} {l : List PB} (h : Bk w b T vs) (ho : Ow w base v l) (hg : w.grownBy w' v.ownBlock) (hb : b < base) : Bk w' b T vs := h.to (only_of_grown hg (R := fun y => v.ownBlock = some y) (fun k e => e)) (fun e => by have := own_base ho b e; omega)
def BgPost (w : World) (e : Ending) (w' : World) : Prop := ∃ a n c ns, e = .returned (.agg #[.slice a n c]) ∧ Nr w' (fun y => w.heap.size < y) (.slice a n c) ns ∧ (smallN ns ∧ ns.length ≤ 1048576) ∧ Below w.heap.size w w'
set_option maxHeartbeats 4000000 in
set_option maxRecDepth 20000 in
theorem big_any (m : Nat) (w : World) (hm : m ≤ 200) : Calls Try.prog 30 #[.int .i64 (m : Int)] w fun e w' => BgPost w e w' := by
  have HBU : Hid (Below w.heap.size w ((w.alloc (.cells #[.slice none 0 0] 25)).alloc (.cells #[] 35))) := below_new (below_new (Below.refl _ _))
  have K0 : Hid (Bk ((w.alloc (.cells #[.slice none 0 0] 25)).alloc (.cells #[] 35)) w.heap.size 25 [.slice none 0 0]) := (Bk.new w 25 [.slice none 0 0]).alloc _
  have HO : Hid (Ow ((w.alloc (.cells #[.slice none 0 0] 25)).alloc (.cells #[] 35)) (w.heap.size + 1) (.slice (some ⟨w.heap.size + 1, 0, none⟩) 0 0) []) := by
    have := ow_new (w.alloc (.cells #[.slice none 0 0] 25)) (w.heap.size + 1) (by simp)
    show Ow _ _ _ _
    simpa using this
  have HZ0 : Hid (w.heap.size + 1 ≤ ((w.alloc (.cells #[.slice none 0 0] 25)).alloc (.cells #[] 35)).heap.size) := by show _ ≤ _; simp
  go_enter Try.func30, Try.ntmps30
  go_wp2_with fail
  generalize (w.alloc (.cells #[.slice none 0 0] 25)).alloc (.cells #[] 35) = U at *
  generalize hB : w.heap.size + 1 = B at *
  have HBB : Hid (w.heap.size < B) := by show _ < _; omega
  clear hB
  go_loopw [3, 4] (fun x i wr => ∃ (j : Nat) (av : Option Addr) (nv cv : Nat) (l : List PB), j ≤ m ∧ i = .int .i64 j ∧ x = .slice av nv cv ∧ Hid (Ow wr B (.slice av nv cv) l) ∧ Hid (l.length = j) ∧ Hid (Bk wr w.heap.size 25 [.slice none 0 0]) ∧ Hid (Below w.heap.size w wr) ∧ Hid (B ≤ wr.heap.size)) (fun _ i _ => m - (intOf i).toNat)
  case atStart => exact ⟨0, _, _, _, [], Nat.zero_le _, rfl, rfl, HO.out, rfl, K0.out, HBU.out, HZ0.out⟩
  case round =>
    obtain ⟨j, av, nv, cv, l, hj, rfl, rfl, O1, L1, K1, B1, Z1⟩ := hrel
    clear HBU K0 HO HZ0
    by_cases hlt : j < m
    · have hlt' : (j : Int) < (m : Int) := by omega
      go_wp2_with fail
      refine (numText4 ((1000 : Int) + (j : Int)) _ (by omega) (by omega)).mono ?_
      rintro e w1 ⟨⟨s, rfl, hs⟩, hb1⟩
      have ba := below_new (o := .cells #[.string (ByteArray.append ⟨#[107]⟩ s), .string ⟨#[]⟩] 35) (w := w1) (Below.refl _ _)
      have O2 := hid ((O1.out.kept hb1).kept ba)
      have K2 := hid ((K1.out.below hb1).below ba)
      have B2 := hid (bthn (bthn B1.out hb1) ba)
      have Z2 : Hid (B ≤ (w1.alloc (.cells #[.string (ByteArray.append ⟨#[107]⟩ s), .string ⟨#[]⟩] 35)).heap.size) := Nat.le_trans (Nat.le_trans Z1.out hb1.size) ba.size
      have P2 := hid (Bk.new w1 35 [.string (ByteArray.append ⟨#[107]⟩ s), .string ⟨#[]⟩])
      have hll : l.length ≤ 1048576 := by rw [L1.out]; omega
      clear hb1 ba O1 K1 B1 Z1
      go_wp2_with (at_builtin; refine wpList_append_pair1 rfl _ _ rfl B _ l rfl O2.out w1.heap.size _ _ rfl P2.out hll Z2.out ?_)
      intro a3 n3 c3 w3 hO3 hg3 ha3
      have O3 := hid hO3
      have K3 := hid (Ow.grownOther K2.out O2.out hg3 HBB.out)
      have B3 : Hid (Below w.heap.size w w3) := by
        have hon : Only (fun y => (Value.slice av nv cv).ownBlock = some y) _ w3 := only_of_grown hg3 (fun k e => e)
        exact B2.out.trans (hon.below (Nat.le_trans (Nat.le_of_lt HBB.out) Z2.out) (fun b hb e => by have := own_base O2.out b e; have := HBB.out; omega))
      have Z3 : Hid (B ≤ w3.heap.size) := Nat.le_trans Z2.out hg3.size
      clear hO3 hg3 ha3 O2 K2 B2 Z2 P2
      go_wp2
      go_roundw
      case rel => exact ⟨j + 1, a3, n3, c3, _, by omega, by go_num, rfl, O3.out, by show _ = _; simp [L1.out], K3.out, B3.out, Z3.out⟩
      case measure => simp [intOf]; omega
    · have hlt' : ¬ (j : Int) < (m : Int) := by omega
      have P1 := hid (O1.out.pr (S := fun _ => True) (fun _ _ _ _ => trivial))
      have hcc := (Rw.len P1.out).2
      clear O1
      go_wp2_with fail
      refine (specTreeOf_any _ av nv cv l _ P1.out).mono ?_
      rintro e w2 ⟨a2, n2, c2, rfl, hN2, hb2⟩
      have HS := hid (small_smallN (ofV_small l))
      have ba := below_alloc w2 (.cells #[.slice a2 n2 c2] 25)
      have K2 := hid ((K1.out.below hb2).below ba)
      have T2 := hid (Bk.new w2 25 [.slice a2 n2 c2])
      have hN3 : Nr (w2.alloc (.cells #[.slice a2 n2 c2] 25)) (fun y => w.heap.size < y) (.slice a2 n2 c2) ((ofV l).getD []) := (Nr.mono hN2 (fun y hy _ => by have := hy.1; have := K1.out.lt; omega)).below ba
      have HF : Hid (Nr ((w2.alloc (.cells #[.slice a2 n2 c2] 25)).setCell ⟨w.heap.size, 0, none⟩ (.slice a2 n2 c2)) (fun y => w.heap.size < y) (.slice a2 n2 c2) ((ofV l).getD []) ∧ Below w.heap.size w ((w2.alloc (.cells #[.slice a2 n2 c2] 25)).setCell ⟨w.heap.size, 0, none⟩ (.slice a2 n2 c2))) :=
        ⟨hN3.to (only_set (R := fun y => y = w.heap.size) rfl _) (fun y hy _ e => by omega), (bthn (bthn B1.out hb2) ba).setCell (Nat.le_refl _) _⟩
      clear hN2 hN3 hb2 ba K1 B1 Z1 P1
      generalize (ofV l).isSome = bb at *
      have t0 := T2.out.cell (j := 0) rfl
      have r0 := K2.out.cell (j := 0) rfl
      have rf := K2.out.free 0
      have d1 := (K2.out.set 0 (.slice a2 n2 c2)).cell (j := 0) rfl
      clear T2 K2
      go_wp2
      refine bodyPost_ret (v := .agg #[.slice a2 n2 c2]) ?_ rfl ?_
      · refine results_tree1 rfl _ _ _ rfl ?_
        exact d1
      · exact ⟨_, _, _, _, rfl, HF.out.1, HS.out, HF.out.2⟩
set_option maxHeartbeats 4000000 in
theorem anyVal_any (g : Nat) (w : World) (h : Cu w g) : Calls Try.prog 31 #[.pointer (some ⟨g, 0, none⟩)] w fun e w' => (∃ s : ByteArray, e = .returned (.string s)) ∧ w.grownBy w' (some g) ∧ Cu w' g := by
  have HC := hid h
  clear h
  go_enter Try.func31, Try.ntmps31
  go_wp2_with fail
  refine (below_any g 14 w HC.out (by omega) (by omega)).mono ?_
  rintro e w1 ⟨⟨x, rfl, hx0, hx1⟩, hg1, hc1⟩
  have HG1 := hid hg1
  have HC1 := hid hc1
  clear hg1 hc1 HC
  by_cases h0 : x = 0
  · subst h0
    have hmk := made_any 61 61 (by omega) (by omega)
    have hst := run_str (rd_made w1 61 (by omega))
    generalize strOf (List.replicate 61 0) = s6 at hst
    go_wp2
    go_ret
    exact ⟨⟨_, rfl⟩, grownBy_trans HG1.out (grownBy_alloc _ _ _), HC1.out.alloc _⟩
  · go_wp2_with fail
    refine (val_any g w1 HC1.out).mono ?_
    rintro e w2 ⟨⟨s, rfl⟩, hg2, hc2⟩
    have HG2 := hid (grownBy_trans HG1.out hg2)
    have HC2 := hid hc2
    clear hg2 hc2
    go_wp2
    go_ret
    exact ⟨⟨_, rfl⟩, HG2.out, HC2.out⟩
theorem results_tree3 {fn : Func} {p u x : Tmp} (h : fn.results = #[.cell p 25, .tmp u, .tmp x]) (tmps : Array Value) (w : World) (g : Nat) {y b c : Value} (hp : tmps.getD p undef = .pointer (some ⟨g, 0, none⟩)) (hb : tmps.getD u undef = b) (hc : tmps.getD x undef = c)
    (c0 : w.cell? ⟨g, 0, none⟩ = some y) : (results fn tmps).run Try.prog w = .ok (.tuple #[.agg #[y], b, c]) w := by
  have hp' : tmps[p]?.getD undef = .pointer (some ⟨g, 0, none⟩) := by simpa using hp
  have hb' : tmps[u]?.getD undef = b := by simpa using hb
  have hc' : tmps[x]?.getD undef = c := by simpa using hc
  have hl : (loadVar 25 ⟨g, 0, none⟩).run Try.prog w = .ok (.agg #[y]) w := by go_simp
  simp [results, h, hp', hb', hc', asAddr, hl, Result.andThen]
theorem Dd.setBox {w v v' : World} {g tb : Nat} {a a' : Option Addr} {n c n' c' : Nat} {ns ns' : List NB} (h : Dd w v g tb a n c ns) (hb : Below v.heap.size v v') (hN : Nr v' (fun y => v.heap.size < y) (.slice a' n' c') ns') (hs : smallN ns' ∧ ns'.length ≤ 1048576) : Dd w (v'.setCell ⟨tb, 0, none⟩ (.slice a' n' c')) g tb a' n' c' ns' := by
  have h2 := h.below hb
  have hlt := h.bk.lt
  have hng := h.ng
  have hnb := h.nb
  refine ⟨h2.be.setCell (p := ⟨tb, 0, none⟩) (by show _ ≤ tb; omega) _, h2.cu.set _ _ _ (by omega), h2.bk.set 0 _, ?_, hs, hng, hnb⟩
  exact (hN.to (only_set (R := fun y => y = tb) rfl _) (fun y hy _ e => by omega)).mono (fun y hy _ => ⟨by omega, by omega⟩)
def DpPost (w : World) (e : Ending) (w' : World) : Prop := ∃ a n c ns k v, e = .returned (.tuple #[.agg #[.slice a n c], .string k, .string v]) ∧ Nr w' (fun _ => True) (.slice a n c) ns ∧ (smallN ns ∧ ns.length ≤ 1048576) ∧ Below w.heap.size w w'
set_option maxHeartbeats 4000000 in
set_option maxRecDepth 20000 in
theorem drawTreePut_any (a : Option Addr) (n c : Nat) (zs : List Int) (w : World) (h : Rd w a n c zs) (hl : n ≤ 1048576) :
    Calls Try.prog 6 #[.slice a n c] w fun e w' => DpPost w e w' := by
  have B0 := hid (below_alloc w (.cells #[.slice none 0 0] 25))
  have K0 := hid (Bk.new w 25 [.slice none 0 0])
  have HR := hid (h.kept (below_alloc w (.cells #[.slice none 0 0] 25)))
  have HG : Hid (w.heap.size < (w.alloc (.cells #[.slice none 0 0] 25)).heap.size) := by show _ < _; simp
  clear h
  go_enter Try.func6, Try.ntmps6
  go_wp2_with fail
  refine (new_any a n c zs _ HR.out hl).mono ?_
  generalize w.alloc (.cells #[.slice none 0 0] 25) = w0 at *
  rintro e w1 ⟨rfl, hb1, hc1⟩
  have HB1 := hid (bthn B0.out hb1)
  have K1 := hid (K0.out.below hb1)
  have HC1 := hid hc1
  have HGL := hid hc1.lt
  clear hb1 hc1 B0 K0 HR
  generalize w0.heap.size = g at *
  clear w0
  have HNE : Hid (w.heap.size ≠ g) := by have := HG.out; show _ ≠ _; omega
  go_wp2_with fail
  refine (anyT_any g _ HC1.out).mono ?_
  rintro e w2 ⟨ta, tn, tc, ns, rfl, hg2, hc2, hN2, hs2⟩
  have D := hid (Dd.new HB1.out HGL.out (Nat.le_of_lt HG.out) hg2 hc2 hN2 hs2)
  have K2 : Hid (Bk _ w.heap.size 25 [.slice none 0 0]) := (K1.out.grown hg2 HNE.out).alloc (.cells #[.slice ta tn tc] 25)
  clear hg2 hc2 hN2 hs2 HB1 K1 HC1 HGL
  go_wp2_with fail
  refine (anyKey_any g _ D.out.cu).mono ?_
  generalize w2.alloc (.cells #[.slice ta tn tc] 25) = U2 at *
  generalize w2.heap.size = tb at *
  rintro e w3 ⟨⟨k, rfl, hk⟩, hg3, hc3⟩
  have D3 := hid (D.out.draw hg3 hc3)
  have K3 := hid (K2.out.grown hg3 HNE.out)
  clear hg3 hc3 D K2 hk
  have HFIN : Hid (∀ (u : World) (x : ByteArray) (ta : Option Addr) (tn tc : Nat) (ns : List NB), Dd w u g tb ta tn tc ns → DpPost w (.returned (.tuple #[.agg #[.slice ta tn tc], .string k, .string x])) (u.setCell ⟨w.heap.size, 0, none⟩ (.slice ta tn tc))) := by
    intro u x ta tn tc ns hD
    have HF := hD.fin HG.out (Nat.le_refl _) 0 (.slice ta tn tc)
    exact ⟨_, _, _, ns, k, x, rfl, HF.1, hD.sm, HF.2⟩
  go_wp2_with fail
  refine (below_any g 60 _ D3.out.cu (by omega) (by omega)).mono ?_
  rintro e w4 ⟨⟨x, rfl, hx0, hx1⟩, hg4, hc4⟩
  have D4 := hid (D3.out.draw hg4 hc4)
  have K4 := hid (K3.out.grown hg4 HNE.out)
  clear hg4 hc4 D3 K3
  by_cases hx : x = 0
  · subst hx
    clear hx0 hx1
    go_wp2_with fail
    refine (below_any g 2 _ D4.out.cu (by omega) (by omega)).mono ?_
    rintro e w5 ⟨⟨y, rfl, hy0, hy1⟩, hg5, hc5⟩
    have D5 := hid (D4.out.draw hg5 hc5)
    have K5 := hid (K4.out.grown hg5 HNE.out)
    clear hg5 hc5 D4 K4
    obtain ⟨m, hm, hm2⟩ : ∃ m : Nat, (200 : Int) - y = m ∧ m ≤ 200 := ⟨(200 - y).toNat, by omega, by omega⟩
    go_wp2_with fail
    refine (big_any m _ hm2).mono ?_
    rintro e w6 ⟨ba, bn, bc, bs, rfl, hN6, hs6, hb6⟩
    have D6 := hid (D5.out.setBox hb6 hN6 hs6)
    have K6 := hid (K5.out.below hb6)
    have HNT : Hid (w.heap.size ≠ tb) := by have := D5.out.nb; have := HG.out; show _ ≠ _; omega
    have t6 := (D5.out.below hb6).bk.cell (j := 0) rfl
    have f6 := (D5.out.below hb6).bk.free 0
    have K7 := hid (K6.out.setOther HNT.out 0 (.slice ba bn bc))
    clear hN6 hs6 hb6 D5 K5 K6 hm hm2
    go_wp2_with fail
    clear t6 f6
    generalize w6.setCell ⟨tb, 0, none⟩ (.slice ba bn bc) = U6 at *
    have D7 := hid (D6.out.below (below_drew _))
    have K8 := hid (K7.out.below (below_drew _))
    clear D6 K7
    have t7 := D7.out.bk.cell (j := 0) rfl
    go_region_with (go_at_call 31; refine (anyVal_any g _ D7.out.cu).mono ?_; rintro e w8 ⟨⟨s, rfl⟩, hg8, hc8⟩; have D8 := D7.out.draw hg8 hc8; have K9 := K8.out.grown hg8 HNE.out; have t8 := D8.bk.cell (j := 0) rfl; have r8 := K9.cell (j := 0) rfl; have f8 := K9.free 0)
    all_goals
      have d1 := (K9.set 0 (.slice ba bn bc)).cell (j := 0) rfl
      have HF := hid (HFIN.out _ s _ _ _ _ D8)
      clear D8 K9 HFIN D7 K8 hg8 hc8
      go_wp2
      refine bodyPost_ret (v := .tuple #[.agg #[.slice ba bn bc], .string k, .string s]) ?_ rfl ?_
      · refine results_tree3 rfl _ _ _ rfl rfl rfl ?_
        exact d1
      · exact HF.out
  · go_wp2_with fail
    have D7 := hid (D4.out.below (below_drew _))
    have K8 := hid (K4.out.below (below_drew _))
    clear D4 K4
    have t7 := D7.out.bk.cell (j := 0) rfl
    go_region_with (go_at_call 31; refine (anyVal_any g _ D7.out.cu).mono ?_; rintro e w8 ⟨⟨s, rfl⟩, hg8, hc8⟩; have D8 := D7.out.draw hg8 hc8; have K9 := K8.out.grown hg8 HNE.out; have t8 := D8.bk.cell (j := 0) rfl; have r8 := K9.cell (j := 0) rfl; have f8 := K9.free 0)
    all_goals
      have d1 := (K9.set 0 (.slice ta tn tc)).cell (j := 0) rfl
      have HF := hid (HFIN.out _ s _ _ _ _ D8)
      clear D8 K9 HFIN D7 K8 hg8 hc8
      go_wp2
      refine bodyPost_ret (v := .tuple #[.agg #[.slice ta tn tc], .string k, .string s]) ?_ rfl ?_
      · refine results_tree3 rfl _ _ _ rfl rfl rfl ?_
        exact d1
      · exact HF.out
end Go.Proofs.Ytkflneeifllpgaa
/-
  The law FnTree answers true at every slice of bytes, and writes nothing that was there.
-/
namespace Go.Proofs.Ytkflneeifllpgaa
open Go.RowKit
set_option maxHeartbeats 8000000 in
set_option maxRecDepth 20000 in
theorem lawFTree_walk (a : Option Addr) (n c : Nat) (z0 : List Int) (w : World) (w0 : IsRow .u8 w a n c z0) :
    Calls Try.prog 3 #[.slice a n c] w fun e w' => e = .returned (.bool true) ∧ Below w.heap.size w w' := by
  by_cases hbig : 1048576 < n
  · have hb' : (1048576 : Int) < (n : Int) := by omega
    clear w0
    go_enter Try.func3, Try.ntmps3
    go_wp2
    go_ret
    exact ⟨rfl, Below.refl _ _⟩
  · have hrd := rd_of_row w0 (by omega)
    generalize z0.take n = zs at hrd
    have hns : ¬ (1048576 : Int) < (n : Int) := by omega
    clear w0
    have HR : Hid (Rd w a n c zs) := hrd
    clear hrd
    go_enter Try.func3, Try.ntmps3
    go_wp2_with fail
    refine (drawTreePut_any a n c zs _ HR.out (by omega)).mono ?_
    rintro e w1 ⟨ta, tn, tc, ns, k, v, rfl, hN1, hs1, hb1⟩
    have HB1 := hid (bthn hb1 (below_alloc w1 (.cells #[.slice ta tn tc] 25)))
    have HN1 := hid (hN1.below (below_alloc w1 (.cells #[.slice ta tn tc] 25)))
    have K1 := hid (Bk.new w1 25 [.slice ta tn tc])
    have HS := hid hs1
    clear hN1 hs1 hb1 HR
    have t0 := K1.out.cell (j := 0) rfl
    go_wp2_with fail
    refine (implTreePut_any _ ta tn tc ns k v _ HN1.out).mono ?_
    generalize w1.alloc (.cells #[.slice ta tn tc] 25) = U1 at *
    generalize w1.heap.size = tb at *
    rintro e w2 ⟨v2, rfl, hT2, hb2⟩
    obtain ⟨ua, un, uc, rfl, hun⟩ := hT2.shape
    have ba2 := below_alloc w2 (.cells #[.slice ua un uc] 25)
    have L2 : Hid (Lw w (w2.alloc (.cells #[.slice ua un uc] 25)) tb ta tn tc ns w2.heap.size ua un uc ((putV ns k v).getD [])) := ⟨bthn (bthn HB1.out hb2) ba2, (K1.out.below hb2).below ba2, (HN1.out.below hb2).below ba2, Bk.new w2 25 [.slice ua un uc], (TreePost.nr hT2).below ba2⟩
    clear hT2 hb2 ba2 HB1 HN1 K1 t0
    have t2 := L2.out.ct
    go_wp2_with fail
    refine (specTreePut_any ns HS.out.2 HS.out.1 _ ta tn tc k v _ L2.out.nt).mono ?_
    generalize w2.alloc (.cells #[.slice ua un uc] 25) = U2 at *
    generalize w2.heap.size = ub at *
    rintro e w3 ⟨a3, n3, c3, rfl, hN3, hb3⟩
    have L3 : Hid (Lw w (w3.alloc (.cells #[.slice a3 n3 c3] 25)) tb ta tn tc ns ub ua un uc ((putV ns k v).getD [])) := (L2.out.below hb3).below (below_alloc _ _)
    clear hN3 hb3 L2 t2
    cases hdr : putV ns k v with
    | none =>
      rw [hdr] at hun
      have h0 : un = 0 := hun.out
      subst h0
      clear hun hdr
      have u3 := L3.out.cu
      have HB3 := hid L3.out.be
      clear L3
      go_wp2
      go_ret
      exact ⟨rfl, HB3.out⟩
    | some ms =>
      rw [hdr] at L3 hun
      obtain ⟨F, hko⟩ := putV_facts hdr
      have L4 : Hid (Lw w (w3.alloc (.cells #[.slice a3 n3 c3] 25)) tb ta tn tc ns ub ua un uc ms) := L3.out
      have HGT := hid F.got
      have HOK := hid F.ok
      have HAL := hid F.all
      have HOT := hid F.others
      have HAN := hid (alV_len ns)
      have HAM := hid (alV_len ms)
      have HGN : Hid (getV ns k = fnd (alV ns) k) := by show _ = _; rw [getV, if_pos hko]
      clear F L3 hdr hun hko
      have u4 := L4.out.cu
      go_wp2_with fail
      refine (implTreeGet_any _ ua un uc ms k _ L4.out.nu).mono ?_
      generalize w3.alloc (.cells #[.slice a3 n3 c3] 25) = U3 at *
      rintro e w4 ⟨he, hb4⟩
      rw [HGT.out] at he
      simp only [gotV] at he
      subst he
      have L5 := hid (L4.out.below hb4)
      clear hb4 L4 u4
      have t5 := L5.out.ct
      go_wp2_with fail
      refine (specTreeAll_any ns HS.out.2 HS.out.1 _ ta tn tc _ L5.out.nt).mono ?_
      rintro e w7 ⟨vl, rfl, hO7, hb7⟩
      obtain ⟨la, ln, lc, hv, hln⟩ := hO7.shape'
      subst hv
      have hl2 : ln ≤ 200 := by rw [hln.out]; exact HAN.out
      have HP7 := hid (hO7.pr (S := fun _ => True) (fun _ _ _ _ => trivial))
      have L7 := hid (L5.out.below hb7)
      have hlc := (Rw.len HP7.out).2
      clear hO7 hb7 L5 t5
      generalize hll : alV ns = l at *
      have HLE := hid hll
      clear hll
      go_wp2_with fail
      go_loopw [60] (fun i wr => ∃ (j : Nat), j ≤ ln ∧ i = .int .i64 j ∧ Hid (Pr wr (fun _ => True) (.slice la ln lc) l) ∧ Hid (Lw w wr tb ta tn tc ns ub ua un uc ms)) (fun i _ => ln - (intOf i).toNat)
      case atStart => exact ⟨0, Nat.zero_le _, rfl, HP7.out, L7.out⟩
      case round =>
        obtain ⟨j, hj, rfl, P1, L1⟩ := hrel
        clear HP7 L7
        by_cases hlt : j < ln
        · have hlt' : (j : Int) < (ln : Int) := by omega
          have hjl : j < l.length := by rw [← hln.out]; exact hlt
          obtain ⟨pb, off, hla, -, -, hc⟩ := P1.out.at (by omega)
          subst hla
          have m0 := (hc j hlt).1
          have m1 := (hc j hlt).2
          have HO := hid (HOT.out j hjl)
          clear hc
          generalize (pAtB l j).1 = kk at *
          generalize (pAtB l j).2 = vv at *
          have ba := below_alloc wr (.cells #[.string kk, .string vv] 35)
          have P2 := hid (Rw.below P1.out ba)
          have L2 := hid (L1.out.below ba)
          have Q2 := hid (Bk.new wr 35 [.string kk, .string vv])
          clear P1 L1 ba
          have u2 := L2.out.cu
          have q2 := Q2.out.cell (j := 0) rfl
          go_wp2_with fail
          refine (implTreeGet_any _ ua un uc ms kk _ L2.out.nu).mono ?_
          generalize wr.alloc (.cells #[.string kk, .string vv] 35) = UU at *
          generalize wr.heap.size = qb at *
          rintro e w5 ⟨he, hb5⟩
          have P5 := hid (Rw.below P2.out hb5)
          have L5 := hid (L2.out.below hb5)
          have q5 := (Q2.out.below hb5).cell (j := 0) rfl
          have q6 := (Q2.out.below hb5).cell (j := 1) rfl
          clear P2 L2 Q2 hb5 u2 q2
          by_cases hk : kk = k
          · subst hk
            rw [HGT.out] at he
            simp only [gotV] at he
            subst he
            clear HO
            go_wp2
            go_roundw
            case rel => exact ⟨j + 1, by omega, by go_num, P5.out, L5.out⟩
            case measure => simp [intOf]; omega
          · have hne : (kk.toList == k.toList) = false := by
              rw [beq_eq_false_iff_ne]
              exact fun e => hk (str_ext e)
            rw [HO.out hk] at he
            simp only [gotV] at he
            subst he
            clear HO hk
            go_wp2
            go_roundw
            case rel => exact ⟨j + 1, by omega, by go_num, P5.out, L5.out⟩
            case measure => simp [intOf]; omega
        · have hlt' : ¬ (j : Int) < (ln : Int) := by omega
          clear P1 HOT HGT
          have t1 := L1.out.ct
          go_wp2_with fail
          refine (specTreeGet_any ns HS.out.2 HS.out.1 _ ta tn tc k _ L1.out.nt).mono ?_
          rintro e w5 ⟨he, hb5⟩
          rw [HGN.out] at he
          have L5 := hid (L1.out.below hb5)
          clear hb5 L1 t1 HGN
          have HAS : Hid (∀ w, Nr w (fun _ => True) (.slice ta tn tc) ns → Calls Try.prog 10 #[.agg #[.slice ta tn tc]] w fun e w' => OwPost l w e w') := fun v hv => by
            have := specTreeAll_any ns HS.out.2 HS.out.1 _ ta tn tc v hv
            rwa [HLE.out] at this
          have HIO : Hid (∀ v, Nr v (fun _ => True) (.slice ua un uc) ms → Calls Try.prog 12 #[.agg #[.slice ua un uc]] v fun e w' => e = .returned (.bool true) ∧ Below v.heap.size v w') := fun v hv => HOK.out ▸ implTreeOk_any _ ua un uc ms v hv
          clear HOK
          have t5 := L5.out.ct
          cases hfd : fnd l k with
          | none =>
            have hcnt : (alV ms).length = l.length + 1 := by have := HAL.out; rw [hfd] at this; exact this
            rw [hfd] at he
            simp only [gotV] at he
            subst he
            clear HAL hfd
            have HCNT := hid hcnt
            clear hcnt
            go_wp2_with fail
            refine (HAS.out _ L5.out.nt).mono ?_
            rintro e w6 ⟨v6, rfl, hO6, hb6⟩
            obtain ⟨xa, xn, xc, rfl, hxn⟩ := hO6.shape'
            have hx2 : xn ≤ 200 := by rw [hxn.out, ← hln.out]; exact hl2
            have L6 := hid (L5.out.below hb6)
            clear hO6 hb6 L5 t5
            have u6 := L6.out.cu
            go_wp2_with fail
            refine (HIO.out _ L6.out.nu).mono ?_
            rintro e w8 ⟨rfl, hb8⟩
            have L8 := hid (L6.out.below hb8)
            clear hb8 L6 u6
            have u8 := L8.out.cu
            go_wp2_with fail
            refine (implTreeAll_any _ ua un uc ms _ L8.out.nu).mono ?_
            rintro e w9 ⟨v9, rfl, hO9, hb9⟩
            obtain ⟨ya, yn, yc, rfl, hyn⟩ := hO9.shape'
            have hyx : (yn : Int) = (xn : Int) + 1 := by rw [hyn.out, HCNT.out, ← hxn.out]; rfl
            have HB9 := hid (L8.out.below hb9).be
            clear hO9 hb9 L8 u8
            go_wp2
            go_ret
            exact ⟨rfl, HB9.out⟩
          | some vo =>
            have hcnt : (alV ms).length = l.length := by have := HAL.out; rw [hfd] at this; exact this
            rw [hfd] at he
            simp only [gotV] at he
            subst he
            clear HAL hfd
            have HCNT := hid hcnt
            clear hcnt
            go_wp2_with fail
            refine (HAS.out _ L5.out.nt).mono ?_
            rintro e w6 ⟨v6, rfl, hO6, hb6⟩
            obtain ⟨xa, xn, xc, rfl, hxn⟩ := hO6.shape'
            have hx2 : xn ≤ 200 := by rw [hxn.out, ← hln.out]; exact hl2
            have L6 := hid (L5.out.below hb6)
            clear hO6 hb6 L5 t5
            have u6 := L6.out.cu
            go_wp2_with fail
            refine (HIO.out _ L6.out.nu).mono ?_
            rintro e w8 ⟨rfl, hb8⟩
            have L8 := hid (L6.out.below hb8)
            clear hb8 L6 u6
            have u8 := L8.out.cu
            go_wp2_with fail
            refine (implTreeAll_any _ ua un uc ms _ L8.out.nu).mono ?_
            rintro e w9 ⟨v9, rfl, hO9, hb9⟩
            obtain ⟨ya, yn, yc, rfl, hyn⟩ := hO9.shape'
            obtain rfl : yn = xn := by rw [hyn.out, HCNT.out, ← hxn.out]
            have HB9 := hid (L8.out.below hb9).be
            clear hO9 hb9 L8 u8
            go_wp2
            go_ret
            exact ⟨rfl, HB9.out⟩
end Go.Proofs.Ytkflneeifllpgaa
