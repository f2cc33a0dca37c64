/-
  DoOps of the program: the hand's lists, the deeds as closures, the loop.
-/
import Derived.Test.YtcpdedpgjaimkaaOpP
import Derived.Test.YtcpdedpgjaimkaaDkJ
namespace Go.Proofs.Ytcpdedpgjaimkaa
open Go.RowKit
set_option linter.unusedVariables false
set_option maxHeartbeats 2000000 in
set_option maxRecDepth 100000 in
theorem cloneW_any (S : Nat → Prop) (a : Option Addr) (n c : Nat) (xs : List Value) (w : World) (h : Rw w S (.slice a n c) n xs) (hl : xs.length = n * 2) (h1 : ∀ u ∈ xs, u.oneCell' = true) (hn : n ≤ 1048576) :
    Calls Try.prog 61 #[.slice a n c] w fun e w' => ∃ a' c', e = .returned (.slice a' n c') ∧ w'.ownsRow w.heap.size 109 2 (.slice a' n c') n xs ∧ Below w.heap.size w w' := by
  cases a with
  | none =>
    have hc : c = 0 := by obtain ⟨a', c', e, -, -, -, h6, -⟩ := h; cases e; exact h6 rfl
    have hn0 : n = 0 := by have := (Rw.len h).2.1; omega
    subst hc hn0
    have HX : Hid (xs = []) := List.eq_nil_of_length_eq_zero (by omega)
    have he : ∀ w : World, (binOp .eql 44 (.slice none 0 0) (.slice none 0 0)).run Try.prog w = .ok (.bool true) w := fun _ => rfl
    clear h hl h1
    go_enter Try.func61, Try.ntmps61
    go_wp2
    go_ret
    exact ⟨none, 0, rfl, by rw [HX.out]; exact World.ownsRow_nil _ _ _ _, Below.refl _ _⟩
  | some x =>
    obtain ⟨ti, hti, htz, hts, htb⟩ := info_of infoWriteI
    have hb0 := below_new (o := .cells #[] 109) (w := w) (Below.refl _ _)
    have HR := hid (h.below hb0)
    have HO : Hid ((w.alloc (.cells #[] 109)).ownsRow w.heap.size 109 2 (.slice (some ⟨w.heap.size, 0, none⟩) 0 0) 0 []) := bk_own (n := 0) (size := 2) (Bk.new w 109 []) (by simp) (by omega) (Nat.le_refl _)
    have HB := hid hb0
    have HZ : Hid (w.heap.size ≤ (w.alloc (.cells #[] 109)).heap.size) := hb0.size
    have hkm : 0 + n ≤ maxLen := by unfold maxLen; omega
    have hkb : (0 + n) * 32 ≤ 140737488355328 := by omega
    have HL : Hid (xs.length = n * 2) := hl
    have H1 := hid h1
    have he : ∀ w : World, (binOp .eql 44 (.slice (some x) n c) (.slice none 0 0)).run Try.prog w = .ok (.bool false) w := fun _ => rfl
    clear h hl h1 hb0
    go_enter Try.func61, Try.ntmps61
    go_wp2_with (at_builtin; refine wpList_append_row_at rfl _ _ _ rfl w.heap.size 109 ti (.agg #[.int .i64 0, .slice none 0 0]) 2 32 Try.underlying44 hti htz hts htb rfl (by decide) _ 0 [] rfl HO.out S _ n xs rfl HR.out HL.out H1.out hkm hkb HZ.out ?_)
    intro v5 w5 hO5 hg5 ha5
    have O5 : Hid (w5.ownsRow w.heap.size 109 2 v5 n xs) := by show World.ownsRow _ _ _ _ _ _ _; simpa using hO5
    have B5 : Hid (Below w.heap.size w w5) := HB.out.trans ((only_of_grown hg5 (R := fun y => y = w.heap.size) (fun k e => by simpa [Value.ownBlock] using e.symm)).below HZ.out (fun y hy e => by omega))
    obtain ⟨a5, c5, rfl⟩ := own_shape O5.out
    clear hO5 hg5 ha5 HO HR HB
    go_wp2
    go_ret
    exact ⟨_, _, rfl, O5.out, B5.out⟩
/-- The disk at hand: its lists are its own, the bytes are the arguments'. -/
structure HD (w v : World) (hb g cc sn : Nat) (V : List Value) (ss : List (List Int)) (da : Option Addr) (dn dc : Nat) (U : List (Int × Value)) (ds : List DW) : Prop where
  bel : Below w.heap.size w v
  k4 : Bk v (w.heap.size + 1) 46 [.slice none 0 0, .slice none 0 0]
  kh : Bk v hb 46 [.slice (some ⟨g, 0, none⟩) sn cc, .slice da dn dc]
  sh : SH v (fun y => y < w.heap.size) (w.heap.size + 2) g cc sn V ss
  drow : v.ownsRow (w.heap.size + 2) 109 2 (.slice da dn dc) ds.length (wcs U)
  ulen : U.length = ds.length
  dby : ∀ i, i < ds.length → (xAt U i).1 = (dwAt ds i).1 ∧ By v (fun y => y < w.heap.size) (xAt U i).2 (dwAt ds i).2
  ap : (Value.slice da dn dc).ownBlock ≠ some g
  hg : hb ≠ g
  hd : (Value.slice da dn dc).ownBlock ≠ some hb
  hl : w.heap.size + 2 ≤ hb
  ok : dkOk ⟨ss, ds⟩ = true
theorem HD.below {w v v' : World} {hb g cc sn : Nat} {V : List Value} {ss : List (List Int)} {da : Option Addr} {dn dc : Nat} {U : List (Int × Value)} {ds : List DW} (h : HD w v hb g cc sn V ss da dn dc U ds) (hb' : Below v.heap.size v v') : HD w v' hb g cc sn V ss da dn dc U ds :=
  ⟨bt7 h.bel hb', h.k4.below hb', h.kh.below hb', h.sh.below hb', own_kept h.drow (only_of_below hb' (fun _ => False)) (fun _ _ h => h), h.ulen, fun i hi => ⟨(h.dby i hi).1, (h.dby i hi).2.below hb'⟩, h.ap, h.hg, h.hd, h.hl, h.ok⟩
theorem HD.wrr {w v : World} {hb g cc sn : Nat} {V : List Value} {ss : List (List Int)} {da : Option Addr} {dn dc : Nat} {U : List (Int × Value)} {ds : List DW} (h : HD w v hb g cc sn V ss da dn dc U ds) {Q : Nat → Prop} (hQ : ∀ y, y < w.heap.size → Q y) (hQ2 : ∀ y, (Value.slice da dn dc).ownBlock = some y → Q y) : Wrr v Q (.slice da dn dc) ds :=
  ⟨U, h.ulen, rw_own h.drow (fun k e _ _ => hQ2 k e), fun i hi => ⟨(h.dby i hi).1, (h.dby i hi).2.mono (fun y hy _ => hQ y hy)⟩⟩
theorem HD.dk {w v : World} {hb g cc sn : Nat} {V : List Value} {ss : List (List Int)} {da : Option Addr} {dn dc : Nat} {U : List (Int × Value)} {ds : List DW} (h : HD w v hb g cc sn V ss da dn dc U ds) : Dk v (fun _ => True) (some ⟨g, 0, none⟩) sn cc da dn dc ⟨ss, ds⟩ := ⟨h.sh.shr, h.wrr (fun _ _ => trivial) (fun _ _ => trivial)⟩
theorem HD.lens {w v : World} {hb g cc sn : Nat} {V : List Value} {ss : List (List Int)} {da : Option Addr} {dn dc : Nat} {U : List (Int × Value)} {ds : List DW} (h : HD w v hb g cc sn V ss da dn dc U ds) : sn = ss.length ∧ dn = ds.length ∧ (2 ≤ sn ∧ sn ≤ 400 ∧ dn ≤ 500) ∧ sn ≤ cc ∧ cc ≤ 9223372036854775807 ∧ dn ≤ dc ∧ dc ≤ 9223372036854775807 := by
  have h1 := own_at h.drow
  have h2 := own_at h.sh.row
  have h3 := dk_smallO h.ok
  have h4 := h.sh.ssl
  simp only at h3
  exact ⟨h4.symm, h1.1, ⟨by omega, by omega, by omega⟩, h2.2.1, h2.2.2.1, h1.2.1, h1.2.2.1⟩
/-- What waits is written down. -/
theorem HD.sync {w v v' : World} {hb g cc sn : Nat} {V V' : List Value} {ss : List (List Int)} {da : Option Addr} {dn dc : Nat} {U : List (Int × Value)} {ds : List DW} (h : HD w v hb g cc sn V ss da dn dc U ds) (o : Only (fun y => y = g) v v') (hs : SH v' (fun y => y < w.heap.size) (w.heap.size + 2) g cc sn V' (syS ss ds ds.length)) :
    HD w (v'.setCell ⟨hb, 1, none⟩ (.slice none 0 0)) hb g cc sn V' (dsV ⟨ss, ds⟩).sh none 0 0 [] (dsV ⟨ss, ds⟩).dw := by
  have he := dsV_ok h.ok
  have hl := h.hl
  have hg := World.ownsRow.lt h.sh.row g rfl
  have o2 : Only (fun y => y = hb) v' (v'.setCell ⟨hb, 1, none⟩ (.slice none 0 0)) := only_set (R := fun y => y = hb) rfl _
  have hok := he.2
  rw [he.1] at hok ⊢
  refine ⟨(h.bel.trans (o.below h.bel.size (fun y hy e => by omega))).setCell (p := ⟨hb, 1, none⟩) (by show w.heap.size ≤ hb; omega) _, (h.k4.to o (by omega)).setOther (by omega) _ _, (h.kh.to o h.hg).set 1 _, ⟨own_kept hs.row o2 (fun y e e2 => (by cases e; exact h.hg e2.symm)), hs.len, hs.ssl, fun i hi => (hs.byt' i hi).to o2 (fun y hy _ e => by omega), hs.off⟩, World.ownsRow_nil _ _ _ _, rfl, fun i hi => (by simp at hi), fun e => (by cases e), h.hg, fun e => (by cases e), hl, hok⟩
/-- A write more waits. -/
theorem HD.push {w v v5 : World} {hb g cc sn : Nat} {V : List Value} {ss : List (List Int)} {da : Option Addr} {dn dc : Nat} {U : List (Int × Value)} {ds : List DW} (h : HD w v hb g cc sn V ss da dn dc U ds) (t : Int) (x : List Int) (p : Value) (hx : By v (fun y => y < w.heap.size) p x) {a5 : Option Addr} {n5 c5 : Nat}
    (ho : v5.ownsRow (w.heap.size + 2) 109 2 (.slice a5 n5 c5) (ds.length + 1) (wcs U ++ [.int .i64 t, p])) (hgr : v.grownBy v5 (Value.slice da dn dc).ownBlock) (ha : (Value.slice a5 n5 c5).ownBlock = (Value.slice da dn dc).ownBlock ∨ (Value.slice a5 n5 c5).ownBlock = some v.heap.size) (hok : dkOk ⟨ss, ds ++ [(t, x)]⟩ = true) :
    HD w (v5.setCell ⟨hb, 1, none⟩ (.slice a5 n5 c5)) hb g cc sn V ss a5 n5 c5 (U ++ [(t, p)]) (ds ++ [(t, x)]) := by
  have o : Only (fun y => (Value.slice da dn dc).ownBlock = some y) v v5 := only_of_grown hgr (fun k e => e)
  have o2 : Only (fun y => y = hb) v5 (v5.setCell ⟨hb, 1, none⟩ (.slice a5 n5 c5)) := only_set (R := fun y => y = hb) rfl _
  have hl := h.hl
  have hlt : ∀ y, (Value.slice da dn dc).ownBlock = some y → w.heap.size + 2 ≤ y := fun y e => (World.ownsRow.lt h.drow y e).1
  have hgl := World.ownsRow.lt h.sh.row g rfl
  have hkl := h.kh.lt
  have old : ∀ {z : Value} {zs : List Int}, By v (fun y => y < w.heap.size) z zs → By (v5.setCell ⟨hb, 1, none⟩ (.slice a5 n5 c5)) (fun y => y < w.heap.size) z zs := fun hz => (hz.to o (fun y hy _ e => by have := hlt y e; omega)).to o2 (fun y hy _ e => by omega)
  have hul := h.ulen
  refine ⟨(h.bel.trans (o.below h.bel.size (fun y hy e => by have := hlt y e; omega))).setCell (p := ⟨hb, 1, none⟩) (by show w.heap.size ≤ hb; omega) _, (h.k4.to o (fun e => by have := hlt _ e; omega)).setOther (by omega) _ _, (h.kh.to o (fun e => h.hd e)).set 1 _, ⟨own_kept (own_kept h.sh.row o (fun y e e2 => by cases e; exact h.ap e2)) o2 (fun y e e2 => by cases e; exact h.hg e2.symm), h.sh.len, h.sh.ssl, fun i hi => old (h.sh.byt' i hi), h.sh.off⟩, ?_, by simp [hul], fun i hi => ?_, ?_, h.hg, ?_, hl, hok⟩
  · rw [List.length_append, wcs_append]
    refine own_kept ho o2 (fun y e e2 => ?_)
    rcases ha with ha | ha
    · rw [ha] at e; exact h.hd (e2 ▸ e)
    · rw [ha] at e; cases e; omega
  · by_cases e : i < ds.length
    · rw [xAt_left (by omega), wAt_left e]
      exact ⟨(h.dby i e).1, old (h.dby i e).2⟩
    · obtain rfl : i = ds.length := by simp at hi; omega
      rw [wAt_end, ← hul, xAt_end]
      exact ⟨rfl, old hx⟩
  · intro e
    rcases ha with ha | ha
    · rw [ha] at e; exact h.ap e
    · rw [ha] at e; cases e; omega
  · intro e
    rcases ha with ha | ha
    · rw [ha] at e; exact h.hd e
    · rw [ha] at e; cases e; omega
theorem HD.cells {w v : World} {hb g cc sn : Nat} {V : List Value} {ss : List (List Int)} {da : Option Addr} {dn dc : Nat} {U : List (Int × Value)} {ds : List DW} (h : HD w v hb g cc sn V ss da dn dc U ds) : (v.cell? ⟨hb, 0, none⟩ = some (.slice (some ⟨g, 0, none⟩) sn cc) ∧ v.cell? ⟨hb, 1, none⟩ = some (.slice da dn dc)) ∧ v.frozen? ⟨hb, 1, none⟩ = false ∧ (v.cell? ⟨w.heap.size + 1, 0, none⟩ = some (.slice none 0 0) ∧ v.cell? ⟨w.heap.size + 1, 1, none⟩ = some (.slice none 0 0)) ∧ (v.frozen? ⟨w.heap.size + 1, 0, none⟩ = false ∧ v.frozen? ⟨w.heap.size + 1, 1, none⟩ = false) :=
  ⟨⟨h.kh.cell (j := 0) rfl, h.kh.cell (j := 1) rfl⟩, h.kh.free 1, ⟨h.k4.cell (j := 0) rfl, h.k4.cell (j := 1) rfl⟩, h.k4.free 0, h.k4.free 1⟩
set_option maxHeartbeats 800000 in
theorem deedOf_any (hb : Nat) (s : Bool) (t : Int) (p : Option Addr) (n c : Nat) (w : World) :
    Calls Try.prog 62 #[.pointer (some ⟨hb, 0, none⟩), .agg #[.bool s, .int .i64 t, .slice p n c]] w fun e w' => e = .returned (if s = true then .func (.func 121) #[] #[.pointer (some ⟨w.heap.size, 0, none⟩)] else .func (.func 123) #[] #[.pointer (some ⟨w.heap.size, 0, none⟩), .pointer (some ⟨w.heap.size + 1, 0, none⟩)]) ∧ (w.alloc (.cells #[.pointer (some ⟨hb, 0, none⟩)] 124)).alloc (.cells #[.bool s, .int .i64 t, .slice p n c] 111) = w' := by
  cases s with
  | true =>
    go_enter Try.func62, Try.ntmps62
    go_wp2
    go_ret
    exact ⟨rfl, rfl⟩
  | false =>
    go_enter Try.func62, Try.ntmps62
    go_wp2
    go_ret
    exact ⟨rfl, rfl⟩
set_option maxHeartbeats 2000000 in
set_option maxRecDepth 100000 in
theorem deedSync_any (u : World) (x hb g cc sn : Nat) (V : List Value) (ss : List (List Int)) (da : Option Addr) (dn dc : Nat) (U : List (Int × Value)) (ds : List DW) (w : World) (h : HD u w hb g cc sn V ss da dn dc U ds) (hx : Bk w x 124 [.pointer (some ⟨hb, 0, none⟩)]) (hxg : x ≠ g) (hxb : x ≠ hb) :
    Calls Try.prog 121 #[.pointer (some ⟨x, 0, none⟩)] w fun e w' => e = .returned (.bool true) ∧ ∃ V', HD u w' hb g cc sn V' (dsV ⟨ss, ds⟩).sh none 0 0 [] (dsV ⟨ss, ds⟩).dw := by
  have H0 := hid h
  have KX := hid hx
  obtain ⟨hn1, hn2, ⟨hn3, hn4, hn5⟩, hn6, hn7, hn8, hn9⟩ := h.lens
  have HN := hid (And.intro hn1 hn2)
  have HWK : Hid (∀ i, i < ds.length → wrtOk sn (dwAt ds i) = true) := fun i hi => by
    have := ((dkOk_iff _).1 h.ok).2.2.2.2 i hi
    rw [hn1]; exact this
  have HNX := hid (And.intro hxg (And.intro hxb h.hg))
  have HWD : Hid (∀ v, Below w.heap.size w v → Calls Try.prog 122 #[.slice (some ⟨g, 0, none⟩) sn cc, .slice da dn dc] v fun e w' => e = .returned (.tuple #[]) ∧ Only (fun y => y = g) v w' ∧ ∃ V', SH w' (fun y => y < u.heap.size) (u.heap.size + 2) g cc sn V' (syS ss ds ds.length)) := by
    intro v hb'
    have hv := H0.out.below hb'
    refine (writeDown_any _ _ g cc sn V ss da dn dc ds v hv.sh ⟨U, hv.ulen, rw_own hv.drow (fun y e _ _ e2 => hv.ap (e2 ▸ e)), hv.dby⟩ HWK.out (by omega) (by omega)).mono ?_
    rintro e w' ⟨h1, h2, h3⟩
    exact ⟨h1, h2, h3⟩
  clear h hx hn1 hn2
  have c0 := KX.out.cell (j := 0) rfl
  obtain ⟨⟨c1, c2⟩, f1, -, -⟩ := H0.out.cells
  have HS0 : Hid (w.drew.cell? ⟨x, 0, none⟩ = some (.pointer (some ⟨hb, 0, none⟩)) ∧ w.drew.cell? ⟨hb, 0, none⟩ = some (.slice (some ⟨g, 0, none⟩) sn cc) ∧ w.drew.cell? ⟨hb, 1, none⟩ = some (.slice da dn dc)) := ⟨by go_simp, by go_simp, by go_simp⟩
  go_enter Try.func121, Try.ntmps121
  go_wp2_with fail
  refine wp_region_noPanic ?_
  refine wp_region_held_drew (S := (fun v => v.cell? ⟨x, 0, none⟩ = some (.pointer (some ⟨hb, 0, none⟩)) ∧ v.cell? ⟨hb, 0, none⟩ = some (.slice (some ⟨g, 0, none⟩) sn cc) ∧ v.cell? ⟨hb, 1, none⟩ = some (.slice da dn dc))) (by kernel_rfl) HS0.out (fun hHeld => ?_)
  simp only [List.size_toArray, List.length_cons, List.length_nil, Array.replicate_succ, Array.replicate_zero, Nat.reduceAdd, List.push_toArray, List.nil_append, List.cons_append]
  refine wpAnyH_take (i := 0) (v := (.pointer (some ⟨hb, 0, none⟩))) rfl (by kernel_rfl) (by kernel_rfl) (by kernel_rfl) (fun _ _ _ h => h) (Or.inl ⟨by rfl, ?_⟩) (by assumption) ?_
  · intro w hSw
    (try dsimp only at hSw)
    go_simp
  try simp only [List.getElem_toArray]
  try simp only [List.getElem_cons_succ]
  try simp only [List.getElem_cons_zero]
  try simp only [Act.put]
  try simp only [List.setIfInBounds_toArray]
  try simp only [List.set_cons_succ]
  try simp only [List.set_cons_zero]
  refine wpAnyH_take (i := 1) (v := (.pointer (some ⟨hb, 0, none⟩))) rfl (by kernel_rfl) (by kernel_rfl) (by kernel_rfl) (fun _ _ _ h => h) (Or.inl ⟨by rfl, ?_⟩) (by assumption) ?_
  · intro w hSw
    (try dsimp only at hSw)
    go_simp
  try simp only [List.getElem_toArray]
  try simp only [List.getElem_cons_succ]
  try simp only [List.getElem_cons_zero]
  try simp only [Act.put]
  try simp only [List.setIfInBounds_toArray]
  try simp only [List.set_cons_succ]
  try simp only [List.set_cons_zero]
  refine wpAnyH_take (i := 2) (v := (.pointer (some ⟨hb, 0, none⟩))) rfl (by kernel_rfl) (by kernel_rfl) (by kernel_rfl) (fun _ _ _ h => h) (Or.inl ⟨by rfl, ?_⟩) (by assumption) ?_
  · intro w hSw
    (try dsimp only at hSw)
    go_simp
  try simp only [List.getElem_toArray]
  try simp only [List.getElem_cons_succ]
  try simp only [List.getElem_cons_zero]
  try simp only [Act.put]
  try simp only [List.setIfInBounds_toArray]
  try simp only [List.set_cons_succ]
  try simp only [List.set_cons_zero]
  refine wpAnyH_take (i := 3) (v := (.slice (some ⟨g, 0, none⟩) sn cc)) rfl (by kernel_rfl) (by kernel_rfl) (by kernel_rfl) (fun _ _ _ h => h) (Or.inl ⟨by rfl, ?_⟩) (by assumption) ?_
  · intro w hSw
    (try dsimp only at hSw)
    go_simp
  try simp only [List.getElem_toArray]
  try simp only [List.getElem_cons_succ]
  try simp only [List.getElem_cons_zero]
  try simp only [Act.put]
  try simp only [List.setIfInBounds_toArray]
  try simp only [List.set_cons_succ]
  try simp only [List.set_cons_zero]
  refine wpAnyH_take (i := 4) (v := (.pointer (some ⟨hb, 0, none⟩))) rfl (by kernel_rfl) (by kernel_rfl) (by kernel_rfl) (fun _ _ _ h => h) (Or.inl ⟨by rfl, ?_⟩) (by assumption) ?_
  · intro w hSw
    (try dsimp only at hSw)
    go_simp
  try simp only [List.getElem_toArray]
  try simp only [List.getElem_cons_succ]
  try simp only [List.getElem_cons_zero]
  try simp only [Act.put]
  try simp only [List.setIfInBounds_toArray]
  try simp only [List.set_cons_succ]
  try simp only [List.set_cons_zero]
  refine wpAnyH_take (i := 5) (v := (.pointer (some ⟨hb, 0, none⟩))) rfl (by kernel_rfl) (by kernel_rfl) (by kernel_rfl) (fun _ _ _ h => h) (Or.inl ⟨by rfl, ?_⟩) (by assumption) ?_
  · intro w hSw
    (try dsimp only at hSw)
    go_simp
  try simp only [List.getElem_toArray]
  try simp only [List.getElem_cons_succ]
  try simp only [List.getElem_cons_zero]
  try simp only [Act.put]
  try simp only [List.setIfInBounds_toArray]
  try simp only [List.set_cons_succ]
  try simp only [List.set_cons_zero]
  refine wpAnyH_take (i := 6) (v := (.pointer (some ⟨hb, 1, none⟩))) rfl (by kernel_rfl) (by kernel_rfl) (by kernel_rfl) (fun _ _ _ h => h) (Or.inl ⟨by rfl, ?_⟩) (by assumption) ?_
  · intro w hSw
    (try dsimp only at hSw)
    go_simp
  try simp only [List.getElem_toArray]
  try simp only [List.getElem_cons_succ]
  try simp only [List.getElem_cons_zero]
  try simp only [Act.put]
  try simp only [List.setIfInBounds_toArray]
  try simp only [List.set_cons_succ]
  try simp only [List.set_cons_zero]
  refine wpAnyH_take (i := 7) (v := (.slice da dn dc)) rfl (by kernel_rfl) (by kernel_rfl) (by kernel_rfl) (fun _ _ _ h => h) (Or.inl ⟨by rfl, ?_⟩) (by assumption) ?_
  · intro w hSw
    (try dsimp only at hSw)
    go_simp
  try simp only [List.getElem_toArray]
  try simp only [List.getElem_cons_succ]
  try simp only [List.getElem_cons_zero]
  try simp only [Act.put]
  try simp only [List.setIfInBounds_toArray]
  try simp only [List.set_cons_succ]
  try simp only [List.set_cons_zero]
  refine wpAnyH_ready (rs := [8]) (by kernel_rfl) (by simp) ?_
  refine AllReadyH.cons rfl (fun K1 hK => ?_) AllReadyH.nil
  go_simp
  refine (HWD.out _ (below_drew _)).mono ?_
  rintro e w4 ⟨rfl, ho, V4, hs4⟩
  have hon : Only (fun y => y = g) w w4 := (only_of_below (below_drew _) _).trans ho
  have X4 := hid (KX.out.to hon HNX.out.1)
  have J4 := hid (H0.out.kh.to hon HNX.out.2.2)
  have F4 := hid (H0.out.sync hon hs4)
  have s0 := X4.out.cell (j := 0) rfl
  have s1 := J4.out.cell (j := 0) rfl
  have s2 := J4.out.cell (j := 1) rfl
  have s3 := J4.out.free 1
  clear c0 c1 c2 f1 HS0 hon ho hs4
  go_wp2_with fail
  refine hK.out _ _ ?_ (fun hHeld => ?_)
  · exact ⟨s0, s1, s2⟩
  clear hK K1
  try simp only [List.getElem_toArray]
  try simp only [List.getElem_cons_succ]
  try simp only [List.getElem_cons_zero]
  try simp only [Act.put]
  try simp only [List.setIfInBounds_toArray]
  try simp only [List.set_cons_succ]
  try simp only [List.set_cons_zero]
  refine wpAnyH_done (by kernel_rfl) ?_ _
  refine NoPanic.normal ?_
  go_wp2
  go_ret
  exact ⟨rfl, V4, F4.out⟩
end Go.Proofs.Ytcpdedpgjaimkaa

