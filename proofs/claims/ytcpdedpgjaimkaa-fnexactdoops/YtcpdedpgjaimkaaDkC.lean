/-
  Disks copied list by list: the specification's and the program's.
-/
import Derived.Test.YtcpdedpgjaimkaaDkN
import Derived.Test.YtcpdedpgjaimkaaApG
import Derived.Test.YtcpdedpgjaimkaaPlain
import Derived.Deep.RegionLaw
import Derived.Deep.DeepCutAuto
namespace Go.Proofs.Ytcpdedpgjaimkaa
open Go.RowKit
set_option linter.unusedVariables false
/-- append of one element as a step of a region that draws; a cell that is kept. -/
theorem step_append_g {P : Program} {w : World} {ops : Array Oper} {o : Oper} {a : Act} {K : Act → World → Prop} {Q : Exit → Act → World → Prop} {E : Prop} (hgd : o.guard = none) (s x : Operand) (t : TypeId)
    (ho : o.op = .call { callee := .builtin .append, args := #[s, x], argTypes := #[t, t] }) (B : Nat) (e : TypeId) (z : Value) (size bytes : Nat) (ht : P.underlying t = some (.slice e)) (hinfo : (P.info? e).map (fun i => (i.zero, i.size, i.bytes)) = some (some z, size, bytes)) (hzs : z.cells.size = size) (hsz : 0 < size) (hby : bytes ≤ 64)
    (v : Value) (n : Nat) (xs : List Value) (hs : a.eval s = v) (hown : w.ownsRow B e size v n xs) (g : Nat) (news : List Value) (hx : a.eval x = .slice (some ⟨g, 0, none⟩) 1 1) (hB : Rw w (fun _ => True) (.slice (some ⟨g, 0, none⟩) 1 1) 1 news) (hl : news.length = size) (h1 : ∀ u ∈ news, u.oneCell' = true) (hb : n ≤ 1048576) (hbase : B ≤ w.heap.size)
    (b0 o0 : Nat) (x0 : Value) (hc0 : w.cell? ⟨b0, o0, none⟩ = some x0) (hf0 : w.frozen? ⟨b0, o0, none⟩ = false) (hne : v.ownBlock ≠ some b0)
    (h : ∀ a' n' c' w', w'.ownsRow B e size (.slice a' n' c') (n + 1) (xs ++ news) → w.grownBy w' v.ownBlock → ((Value.slice a' n' c').ownBlock = v.ownBlock ∨ (Value.slice a' n' c').ownBlock = some w.heap.size) → w'.cell? ⟨b0, o0, none⟩ = some x0 → w'.frozen? ⟨b0, o0, none⟩ = false → K (a.put o.dst (.slice a' n' c')) w') :
    if Region.wanted o (yielded ops a.tmps) = true then Oper.wp P o a w K Q else E := by
  have hw : Region.wanted o (yielded ops a.tmps) = true := by simp [Region.wanted, hgd]
  rw [if_pos hw]
  obtain ⟨i, hi, hz, hsz', hby'⟩ := info_of hinfo
  obtain ⟨v', w', hr, h2, h3, h5⟩ := run_append_row_at (P := P) (w := w) B t o.type e i z size bytes ht hi hz hsz' hby' hzs hsz v n xs hown (fun _ => True) _ 1 news hB (by omega) h1 (by unfold maxLen; omega) (by have := Nat.mul_le_mul (show n + 1 ≤ 1048577 by omega) hby; omega) hbase
  obtain ⟨a', c', rfl⟩ := own_shape h2
  have hbl := h3.block b0 (block_lt hc0) (fun e => hne e.symm)
  unfold Oper.wp execOp
  simp only [ho, resolve, invoke, builtin, Sem.run_bind, Sem.run_pure, Result.andThen_ok, List.map_toArray, List.map_cons, List.map_nil, hs, hx, hr]
  exact h a' _ c' w' h2 h3 h5 ((World.cell?_of_block (w := w) (a := ⟨b0, o0, none⟩) hbl).trans hc0) ((World.frozen?_of_block (w := w) (a := ⟨b0, o0, none⟩) hbl).trans hf0)
/-- append of bytes as a step of a region that draws. -/
theorem step_append_rd {w : World} {ops : Array Oper} {o : Oper} {a : Act} {K : Act → World → Prop} {Q : Exit → Act → World → Prop} {E : Prop} (hgd : o.guard = none) (s x : Operand)
    (ho : o.op = .call { callee := .builtin .append, args := #[s, x], argTypes := #[22, 22] }) (base : Nat) (v : Value) (zs : List Int) (hs : a.eval s = v) (hown : Ob w base v zs)
    (ao : Option Addr) (m c : Nat) (ys : List Int) (hx : a.eval x = .slice ao m c) (hsrc : Rd w ao m c ys) (hb : zs.length + ys.length ≤ 70368744177664) (hbase : base ≤ w.heap.size)
    (h : ∀ a' n' c' w', Ob w' base (.slice a' n' c') (zs ++ ys) → w.grownBy w' v.ownBlock → K (a.put o.dst (.slice a' n' c')) w') : if Region.wanted o (yielded ops a.tmps) = true then Oper.wp Try.prog o a w K Q else E := by
  have hw : Region.wanted o (yielded ops a.tmps) = true := by simp [Region.wanted, hgd]
  rw [if_pos hw]
  obtain ⟨v', w', hr, h2, h3⟩ := run_append_rd (w := w) o.type base v zs hown ao m c ys hsrc hb hbase
  obtain ⟨a', c', rfl⟩ := h2.shape
  unfold Oper.wp execOp
  simp only [ho, resolve, invoke, builtin, Sem.run_bind, Sem.run_pure, Result.andThen_ok, List.map_toArray, List.map_cons, List.map_nil, hs, hx, hr]
  exact h a' _ c' w' h2 h3
theorem bt7 {u v w : World} (h : Below u.heap.size u v) (k : Below v.heap.size v w) : Below u.heap.size u w := h.trans (k.mono h.size)
set_option maxHeartbeats 1000000 in
theorem copyB_any (a : Option Addr) (n c : Nat) (zs : List Int) (w : World) (h : Rd w a n c zs) (hn : n ≤ 1048576) :
    Calls Try.prog 124 #[.slice a n c] w fun e w' => ∃ a' n' c', e = .returned (.slice a' n' c') ∧ Ob w' w.heap.size (.slice a' n' c') zs ∧ Below w.heap.size w w' := by
  have HR := hid h
  have hzl : n = zs.length := h.1
  have HO : Hid (Ob w w.heap.size (.slice none 0 0) []) := World.ownsRow_nil _ _ _ _
  have hzb : ([] : List Int).length + zs.length ≤ 70368744177664 := by rw [← hzl]; simp; omega
  clear h hzl
  go_enter Try.func124, Try.ntmps124
  go_wp2_with (at_builtin; refine wpList_append_rd rfl _ _ rfl w.heap.size _ [] rfl HO.out a n c zs rfl HR.out hzb (Nat.le_refl _) ?_)
  intro v3 w3 hO3 hg3
  have O3 : Hid (Ob w3 w.heap.size v3 zs) := by show Ob _ _ _ _; simpa using hO3
  have B3 : Hid (Below w.heap.size w w3) := (only_of_grown hg3 (R := fun _ => False) (fun k e => by cases e)).below (Nat.le_refl _) (fun _ _ h => h)
  obtain ⟨a3, c3, rfl⟩ := hO3.shape
  clear hO3 hg3 HO HR
  go_wp2
  go_ret
  exact ⟨_, _, _, rfl, O3.out, B3.out⟩
/-- The boxes of a copy: the disk, the result, the copy so far. -/
structure CX (w v : World) (sa : Option Addr) (sn sc : Nat) (da : Option Addr) (dn dc : Nat) (xa : Option Addr) (xn xc : Nat) (ya : Option Addr) (yn yc : Nat) (V : List Value) (U : List (Int × Value)) (d : DK) : Prop where
  bel : Below w.heap.size w v
  k0 : Bk v w.heap.size 46 [.slice sa sn sc, .slice da dn dc]
  k1 : Bk v (w.heap.size + 1) 46 [.slice none 0 0, .slice none 0 0]
  k2 : Bk v (w.heap.size + 1 + 1) 46 [.slice xa xn xc, .slice ya yn yc]
  own : DO v (w.heap.size + 3) (.slice xa xn xc) V (.slice ya yn yc) U d
theorem CX.below {w v v' : World} {sa : Option Addr} {sn sc : Nat} {da : Option Addr} {dn dc : Nat} {xa : Option Addr} {xn xc : Nat} {ya : Option Addr} {yn yc : Nat} {V : List Value} {U : List (Int × Value)} {d : DK} (h : CX w v sa sn sc da dn dc xa xn xc ya yn yc V U d) (hb : Below v.heap.size v v') : CX w v' sa sn sc da dn dc xa xn xc ya yn yc V U d :=
  ⟨bt7 h.bel hb, h.k0.below hb, h.k1.below hb, h.k2.below hb, h.own.below hb⟩
theorem CX.start (w : World) (sa : Option Addr) (sn sc : Nat) (da : Option Addr) (dn dc : Nat) : CX w (((w.alloc (.cells #[.slice sa sn sc, .slice da dn dc] 46)).alloc (.cells #[.slice none 0 0, .slice none 0 0] 46)).alloc (.cells #[.slice none 0 0, .slice none 0 0] 46)) sa sn sc da dn dc none 0 0 none 0 0 [] [] ⟨[], []⟩ := by
  refine ⟨below_new (below_new (below_new (Below.refl _ _))), ((Bk.new w 46 [.slice sa sn sc, .slice da dn dc]).alloc _).alloc _, ?_, ?_, do_nil _ _⟩
  · have := (Bk.new (w.alloc (.cells #[.slice sa sn sc, .slice da dn dc] 46)) 46 [.slice none 0 0, .slice none 0 0]).alloc (.cells #[.slice none 0 0, .slice none 0 0] 46)
    simpa using this
  · have := Bk.new ((w.alloc (.cells #[.slice sa sn sc, .slice da dn dc] 46)).alloc (.cells #[.slice none 0 0, .slice none 0 0] 46)) 46 [.slice none 0 0, .slice none 0 0]
    simpa using this
/-- A sheet more. -/
theorem CX.pushS {w v u w5 : World} {sa : Option Addr} {sn sc : Nat} {da : Option Addr} {dn dc : Nat} {xa : Option Addr} {xn xc : Nat} {ya : Option Addr} {yn yc : Nat} {V : List Value} {U : List (Int × Value)} {ss : List (List Int)} {ds : List DW} (h : CX w v sa sn sc da dn dc xa xn xc ya yn yc V U ⟨ss, ds⟩) (hb : Below v.heap.size v u) (x : List Int) (p : Value) (hx : Ob u v.heap.size p x) (hxb : byt x)
    {a5 : Option Addr} {n5 c5 : Nat} (ho : w5.ownsRow (w.heap.size + 3) 119 1 (.slice a5 n5 c5) (ss.length + 1) (V ++ [p])) (hg : u.grownBy w5 (Value.slice xa xn xc).ownBlock) (ha : (Value.slice a5 n5 c5).ownBlock = (Value.slice xa xn xc).ownBlock ∨ (Value.slice a5 n5 c5).ownBlock = some u.heap.size) :
    CX w (w5.setCell ⟨w.heap.size + 1 + 1, 0, none⟩ (.slice a5 n5 c5)) sa sn sc da dn dc a5 n5 c5 ya yn yc (V ++ [p]) U ⟨ss ++ [x], ds⟩ := by
  have hu := h.below hb
  have hv3 : w.heap.size + 3 ≤ v.heap.size := h.k2.lt
  have hlt := hb.size
  have o : Only (fun y => (Value.slice xa xn xc).ownBlock = some y) u w5 := only_of_grown hg (fun k e => e)
  have hxo : ∀ y, (Value.slice xa xn xc).ownBlock = some y → w.heap.size + 3 ≤ y ∧ y < v.heap.size := fun y e => World.ownsRow.lt h.own.hs.row y e
  have hnew : ∀ y, p.ownBlock = some y → v.heap.size ≤ y ∧ y < u.heap.size := fun y e => World.ownsRow.lt hx y e
  have hS := hu.own.hs.push x p (ownD_base hx (by omega)) hxb (fun y e e2 => by have h1 := hnew y e; have h2 := (h.own.hs.lt e2).2; omega) ho hg ha
  have hW := hu.own.hd.to o (fun y e e2 => hu.own.ap y (.inl e2) e)
  have hne : ∀ y, (Value.slice xa xn xc).ownBlock = some y → y ≠ w.heap.size ∧ y ≠ w.heap.size + 1 ∧ y ≠ w.heap.size + 1 + 1 := fun y e => by have := (hxo y e).1; omega
  have k0 := hu.k0.to o (fun e => (hne _ e).1 rfl)
  have k1 := hu.k1.to o (fun e => (hne _ e).2.1 rfl)
  have k2 := hu.k2.to o (fun e => (hne _ e).2.2 rfl)
  have b5 : Below w.heap.size w w5 := hu.bel.trans (o.below hu.bel.size (fun y hy e => by have := (hxo y e).1; omega))
  have o2 : Only (fun y => y = w.heap.size + 1 + 1) w5 (w5.setCell ⟨w.heap.size + 1 + 1, 0, none⟩ (.slice a5 n5 c5)) := only_set (R := fun y => y = w.heap.size + 1 + 1) rfl _
  refine ⟨b5.setCell (p := ⟨w.heap.size + 1 + 1, 0, none⟩) (by show w.heap.size ≤ w.heap.size + 1 + 1; omega) _, k0.setOther (by omega) _ _, k1.setOther (by omega) _ _, k2.set 0 _, ?_, ?_, ?_⟩
  · exact hS.to o2 (fun y e e2 => by have := (hS.lt e).1; omega)
  · exact hW.to o2 (fun y e e2 => by have := (hW.lt e).1; omega)
  · intro y hy hz
    have h3 := (h.own.hd.lt hz).2
    rcases hy with e | ⟨i, hi, e⟩
    · rcases ha with ha | ha
      · rw [ha] at e; exact h.own.ap y (.inl e) hz
      · rw [ha] at e; cases e; omega
    · rw [List.length_append] at hi
      by_cases hi2 : i < V.length
      · rw [uAt_left hi2] at e; exact h.own.ap y (.inr ⟨i, hi2, e⟩) hz
      · obtain rfl : i = V.length := by simp at hi; omega
        rw [uAt_end] at e
        have := (hnew y e).1
        omega
/-- A write more. -/
theorem CX.pushW {w v u w5 : World} {sa : Option Addr} {sn sc : Nat} {da : Option Addr} {dn dc : Nat} {xa : Option Addr} {xn xc : Nat} {ya : Option Addr} {yn yc : Nat} {V : List Value} {U : List (Int × Value)} {ss : List (List Int)} {ds : List DW} (h : CX w v sa sn sc da dn dc xa xn xc ya yn yc V U ⟨ss, ds⟩) (hb : Below v.heap.size v u) (t : Int) (x : List Int) (p : Value) (hx : Ob u v.heap.size p x) (hxb : byt x)
    {a5 : Option Addr} {n5 c5 : Nat} (ho : w5.ownsRow (w.heap.size + 3) 109 2 (.slice a5 n5 c5) (ds.length + 1) (wcs U ++ [.int .i64 t, p])) (hg : u.grownBy w5 (Value.slice ya yn yc).ownBlock) (ha : (Value.slice a5 n5 c5).ownBlock = (Value.slice ya yn yc).ownBlock ∨ (Value.slice a5 n5 c5).ownBlock = some u.heap.size) :
    CX w (w5.setCell ⟨w.heap.size + 1 + 1, 1, none⟩ (.slice a5 n5 c5)) sa sn sc da dn dc xa xn xc a5 n5 c5 V (U ++ [(t, p)]) ⟨ss, ds ++ [(t, x)]⟩ := by
  have hu := h.below hb
  have hv3 : w.heap.size + 3 ≤ v.heap.size := h.k2.lt
  have hlt := hb.size
  have o : Only (fun y => (Value.slice ya yn yc).ownBlock = some y) u w5 := only_of_grown hg (fun k e => e)
  have hxo : ∀ y, (Value.slice ya yn yc).ownBlock = some y → w.heap.size + 3 ≤ y ∧ y < v.heap.size := fun y e => World.ownsRow.lt h.own.hd.row y e
  have hnew : ∀ y, p.ownBlock = some y → v.heap.size ≤ y ∧ y < u.heap.size := fun y e => World.ownsRow.lt hx y e
  have hW := hu.own.hd.push t x p (ownD_base hx (by omega)) hxb (fun y e e2 => by have h1 := hnew y e; have h2 := (h.own.hd.lt e2).2; omega) ho hg ha
  have hS := hu.own.hs.to o (fun y e e2 => hu.own.ap y e (.inl e2))
  have hne : ∀ y, (Value.slice ya yn yc).ownBlock = some y → y ≠ w.heap.size ∧ y ≠ w.heap.size + 1 ∧ y ≠ w.heap.size + 1 + 1 := fun y e => by have := (hxo y e).1; omega
  have k0 := hu.k0.to o (fun e => (hne _ e).1 rfl)
  have k1 := hu.k1.to o (fun e => (hne _ e).2.1 rfl)
  have k2 := hu.k2.to o (fun e => (hne _ e).2.2 rfl)
  have b5 : Below w.heap.size w w5 := hu.bel.trans (o.below hu.bel.size (fun y hy e => by have := (hxo y e).1; omega))
  have o2 : Only (fun y => y = w.heap.size + 1 + 1) w5 (w5.setCell ⟨w.heap.size + 1 + 1, 1, none⟩ (.slice a5 n5 c5)) := only_set (R := fun y => y = w.heap.size + 1 + 1) rfl _
  refine ⟨b5.setCell (p := ⟨w.heap.size + 1 + 1, 1, none⟩) (by show w.heap.size ≤ w.heap.size + 1 + 1; omega) _, k0.setOther (by omega) _ _, k1.setOther (by omega) _ _, k2.set 1 _, ?_, ?_, ?_⟩
  · exact hS.to o2 (fun y e e2 => by have := (hS.lt e).1; omega)
  · exact hW.to o2 (fun y e e2 => by have := (hW.lt e).1; omega)
  · intro y hy hz
    have h3 := (h.own.hs.lt hy).2
    rcases hz with e | ⟨i, hi, e⟩
    · rcases ha with ha | ha
      · rw [ha] at e; exact h.own.ap y hy (.inl e)
      · rw [ha] at e; cases e; omega
    · rw [List.length_append] at hi
      by_cases hi2 : i < U.length
      · rw [xAt_left hi2] at e; exact h.own.ap y hy (.inr ⟨i, hi2, e⟩)
      · obtain rfl : i = U.length := by simp at hi; omega
        rw [xAt_end] at e
        have := (hnew y e).1
        omega
theorem take_sh {ss : List (List Int)} {k : Nat} (h : k < ss.length) : ss.take (k + 1) = ss.take k ++ [shAt ss k] := by
  rw [List.take_succ_eq_append_getElem h]; simp [shAt, h]
theorem take_dw {ds : List DW} {k : Nat} (h : k < ds.length) : ds.take (k + 1) = ds.take k ++ [((dwAt ds k).1, (dwAt ds k).2)] := by
  rw [List.take_succ_eq_append_getElem h]; congr 1; simp [dwAt, h]
theorem rw_one {w : World} {g : Nat} {T : TypeId} {p : Value} (h : Bk w g T [p]) : Rw w (fun _ => True) (.slice (some ⟨g, 0, none⟩) 1 1) 1 [p] := h.rw (Nat.le_refl _) (by omega) (fun h => by omega) _ trivial
theorem rw_two {w : World} {g : Nat} {T : TypeId} {p q : Value} (h : Bk w g T [p, q]) : Rw w (fun _ => True) (.slice (some ⟨g, 0, none⟩) 1 1) 1 [p, q] := h.rw (Nat.le_refl _) (by omega) (fun h => by omega) _ trivial
end Go.Proofs.Ytcpdedpgjaimkaa

