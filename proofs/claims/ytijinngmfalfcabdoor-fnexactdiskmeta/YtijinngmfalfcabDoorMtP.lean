/-
  Metas as plain data; MetaOk, l04Five and MetaBytes of the specification.
-/
import Derived.Test.YtijinngmfalfcabDoorSpecPut
import Derived.Test.YtijinngmfalfcabDoorFill
import Derived.Test.YtijinngmfalfcabDoorApG
namespace Go.Proofs.YtijinngmfalfcabDoor
open Go.RowKit
def mtOk (g r : Int) : Bool := decide (1 ≤ g ∧ g ≤ 1099511627775) && (decide (r = 0) || decide (2 ≤ r ∧ r < 400))
def wts : List Int := [4294967296, 16777216, 65536, 256, 1]
def five (n : Int) : List Int := wts.map fun W => n / W % 256
def fiveT (n : Int) (j : Nat) : List Int := (wts.take j).map fun W => n / W % 256
def mtHead (g r : Int) : List Int := [77] ++ five g ++ [r / 256, r % 256]
def mtFull (g r : Int) : List Int := mtHead g r ++ List.replicate 499 0 ++ five g
def mtBytes (g r : Int) : Option (List Int) := if mtOk g r = true then some (mtFull g r) else none
theorem five_len (n : Int) : (five n).length = 5 := rfl
theorem mtFull_len (g r : Int) : (mtFull g r).length = 512 := by simp only [mtFull, mtHead, List.length_append, List.length_replicate, five_len, List.length_cons, List.length_nil]
theorem five_byte (n : Int) : ∀ z ∈ five n, 0 ≤ z ∧ z ≤ 255 := by
  intro z hz
  simp only [five, List.mem_map] at hz
  obtain ⟨W, _, rfl⟩ := hz
  omega
theorem fiveT_byte (n : Int) (j : Nat) : ∀ z ∈ fiveT n j, 0 ≤ z ∧ z ≤ 255 := by
  intro z hz
  simp only [fiveT, List.mem_map] at hz
  obtain ⟨W, _, rfl⟩ := hz
  omega
theorem mtHead_byte {g r : Int} (h0 : 0 ≤ r) (h1 : r < 400) : ∀ z ∈ mtHead g r, 0 ≤ z ∧ z ≤ 255 :=
  byte_append (byte_append (by intro z hz; simp at hz; omega) (five_byte g)) (by intro z hz; simp at hz; omega)
theorem mtFull_byte {g r : Int} (h0 : 0 ≤ r) (h1 : r < 400) : ∀ z ∈ mtFull g r, 0 ≤ z ∧ z ≤ 255 :=
  byte_append (byte_append (mtHead_byte h0 h1) (fun z hz => by have := List.eq_of_mem_replicate hz; omega)) (five_byte g)
def wAt (j : Nat) : Int := wts[j]?.getD 1
theorem wAt_rng {j : Nat} (h : j < 5) : 1 ≤ wAt j ∧ wAt j ≤ 4294967296 := by
  match j, h with
  | 0, _ => decide
  | 1, _ => decide
  | 2, _ => decide
  | 3, _ => decide
  | 4, _ => decide
theorem fiveT_succ (n : Int) {j : Nat} (h : j < 5) : fiveT n (j + 1) = fiveT n j ++ [n / wAt j % 256] := by
  match j, h with
  | 0, _ => rfl
  | 1, _ => rfl
  | 2, _ => rfl
  | 3, _ => rfl
  | 4, _ => rfl
theorem fiveT_five (n : Int) : fiveT n 5 = five n := rfl
theorem fiveT_len (n : Int) {j : Nat} (h : j ≤ 5) : (fiveT n j).length = j := by
  simp [fiveT, wts]; omega
theorem mtOk_facts {g r : Int} (h : mtOk g r = true) : 1 ≤ g ∧ g ≤ 1099511627775 ∧ 0 ≤ r ∧ r < 400 := by
  simp [mtOk] at h
  omega
set_option maxHeartbeats 4000000 in
theorem specMetaOk_any (g r : Int) (w : World) : Calls Tryd.prog 74 #[.agg #[.int .i64 g, .int .i64 r]] w fun e w' => e = .returned (.bool (mtOk g r)) ∧ Below w.heap.size w w' := by
  have HB := hid (below_new (o := .cells #[.int .i64 g, .int .i64 r] 41) (w := w) (Below.refl _ _))
  have HD : Hid (mtOk g r = (decide (1 ≤ g ∧ g ≤ 1099511627775) && (decide (r = 0) || decide (2 ≤ r ∧ r < 400)))) := rfl
  by_cases q1 : 1 ≤ g
  · by_cases q2 : g ≤ 1099511627775
    · have HN := hid (fun w => specNum_any g w true (by rw [decide_eq_true (by omega)]))
      rw [decide_eq_true (show 1 ≤ g ∧ g ≤ 1099511627775 from ⟨q1, q2⟩)] at HD
      by_cases q3 : r = 0
      · subst q3
        have HF : Hid (mtOk g 0 = true) := by show _ = true; rw [HD.out]; rfl
        go_enter Tryd.func74, Tryd.ntmps74
        go_wp2_with fail
        refine (HN.out _).mono ?_
        rintro e w1 ⟨rfl, rfl⟩
        go_wp2
        go_ret
        exact ⟨by rw [HF.out]; rfl, HB.out⟩
      · have q3' : (r == 0) = false := by simp [q3]
        by_cases q4 : 2 ≤ r
        · by_cases q5 : r < 400
          · have HF : Hid (mtOk g r = true) := by show _ = true; rw [HD.out, decide_eq_true (show 2 ≤ r ∧ r < 400 from ⟨q4, q5⟩)]; simp
            go_enter Tryd.func74, Tryd.ntmps74
            go_wp2_with fail
            refine (HN.out _).mono ?_
            rintro e w1 ⟨rfl, rfl⟩
            go_wp2
            go_ret
            exact ⟨by rw [HF.out]; rfl, HB.out⟩
          · have HF : Hid (mtOk g r = false) := by show _ = false; rw [HD.out, decide_eq_false q3, decide_eq_false (by omega)]; rfl
            have q5' : decide (r < 400) = false := decide_eq_false q5
            go_enter Tryd.func74, Tryd.ntmps74
            go_wp2_with fail
            refine (HN.out _).mono ?_
            rintro e w1 ⟨rfl, rfl⟩
            go_wp2
            go_ret
            exact ⟨by rw [HF.out]; rfl, HB.out⟩
        · have HF : Hid (mtOk g r = false) := by show _ = false; rw [HD.out, decide_eq_false q3, decide_eq_false (by omega)]; rfl
          go_enter Tryd.func74, Tryd.ntmps74
          go_wp2_with fail
          refine (HN.out _).mono ?_
          rintro e w1 ⟨rfl, rfl⟩
          go_wp2
          go_ret
          exact ⟨by rw [HF.out]; rfl, HB.out⟩
    · have HN := hid (fun w => specNum_any g w false (by rw [decide_eq_false (by omega)]))
      have HF : Hid (mtOk g r = false) := by show _ = false; rw [HD.out, decide_eq_false (by omega)]; rfl
      go_enter Tryd.func74, Tryd.ntmps74
      go_wp2_with fail
      refine (HN.out _).mono ?_
      rintro e w1 ⟨rfl, rfl⟩
      go_wp2
      go_ret
      exact ⟨by rw [HF.out]; rfl, HB.out⟩
  · have HF : Hid (mtOk g r = false) := by show _ = false; rw [HD.out, decide_eq_false (by omega)]; rfl
    go_enter Tryd.func74, Tryd.ntmps74
    go_wp2
    go_ret
    exact ⟨by rw [HF.out]; rfl, HB.out⟩
theorem infoU8' : (Tryd.prog.info? 5).map (fun i => (i.zero, i.size, i.bytes)) = some (some (.int .u8 0), 1, 1) := by kernel_rfl
theorem Ob.lower {w : World} {B B' : Nat} {v : Value} {zs : List Int} (h : Ob w B v zs) (hB : B' ≤ B) : Ob w B' v zs := by
  refine ⟨h.1, h.2.imp id ?_⟩
  rintro ⟨g, cap, cur, h1, h2, h3⟩
  exact ⟨g, cap, cur, h1, Nat.le_trans hB h2, h3⟩
theorem Ob.keep {w w' : World} {B : Nat} {v : Value} {zs : List Int} (h : Ob w B v zs) (hb : Below w.heap.size w w') : Ob w' B v zs := own_kept h (only_of_below hb (fun _ => False)) (fun _ _ h => h)
/-- append of bytes to a row of one's own, and where the new row lies. -/
theorem wpList_append_by {w : World} {ops : Array Oper} {rest : List Oper} {o : Oper} {a : Act} {Q : Exit → Act → World → Prop} (hgd : o.guard = none) (s x : Operand)
    (ho : o.op = .call { callee := .builtin .append, args := #[s, x], argTypes := #[46, 46] }) (B : Nat) (v : Value) (zs : List Int) (hs : a.eval s = v) (hown : Ob w B v zs)
    (ao : Option Addr) (m c : Nat) (ys : List Int) (hx : a.eval x = .slice ao m c) (hsrc : Rd w ao m c ys) (hb : zs.length ≤ 1048576) (hm : m ≤ 1048576) (hB : B ≤ w.heap.size) (hc : ao = none → c = 0)
    (h : ∀ a' n' c' w', Ob w' B (.slice a' n' c') (zs ++ ys) → w.grownBy w' v.ownBlock → ((Value.slice a' n' c').ownBlock = v.ownBlock ∨ (Value.slice a' n' c').ownBlock = some w.heap.size) → wpList Tryd.prog ops Q rest (a.put o.dst (.slice a' n' c')) w') : wpList Tryd.prog ops Q (o :: rest) a w := by
  obtain ⟨i, hi, hz, hsz, hby⟩ := info_of infoU8'
  obtain ⟨r1, r2, r3, r4, r5, r6⟩ := hsrc
  refine wpList_append_row_at hgd s x 46 ho B 5 i _ 1 1 Tryd.underlying46 hi hz hsz hby rfl (by decide) v zs.length (zs.map (Value.int .u8)) hs hown (fun _ => True) _ m (ys.map (Value.int .u8)) hx ?_ (by simp [r1]) (by intro u hu; simp at hu; obtain ⟨z, _, rfl⟩ := hu; rfl) (by unfold maxLen; omega) (by omega) hB ?_
  · refine ⟨ao, c, rfl, r2, r3, fun h0 => by rw [List.eq_nil_of_length_eq_zero (by omega : ys.length = 0)]; rfl, hc, fun hp => ?_⟩
    obtain ⟨b, off, e, hb, hcell⟩ := r6 hp
    refine ⟨b, off, e, hb, trivial, fun j u hu => ?_⟩
    rw [List.getElem?_map] at hu
    obtain ⟨z, hz, rfl⟩ := Option.map_eq_some_iff.1 hu
    have hj : j < ys.length := (List.getElem?_eq_some_iff.1 hz).1
    have := hcell j (by omega)
    rwa [hz] at this
  · intro v' w' k1 k2 k3
    obtain ⟨a', c', rfl⟩ := own_shape k1
    refine h a' _ c' w' ?_ k2 k3
    unfold Ob
    rw [List.length_append, List.map_append, ← r1]
    exact k1
def FvPost (n : Int) (w : World) (e : Ending) (w' : World) : Prop := ∃ a c, e = .returned (.slice (some a) 5 c) ∧ Rd w' (some a) 5 c (five n) ∧ w.heap.size ≤ a.block ∧ Below w.heap.size w w'
set_option maxHeartbeats 4000000 in
set_option maxRecDepth 20000 in
theorem five_any (n : Int) (w : World) (h0 : 0 ≤ n) (h1 : n ≤ 1099511627775) : Calls Tryd.prog 75 #[.int .i64 n] w fun e w' => FvPost n w e w' := by
  have HB : Hid (Below w.heap.size w ((w.alloc (.cells #[] 5)).alloc (.cells #[.int .i64 4294967296, .int .i64 16777216, .int .i64 65536, .int .i64 256, .int .i64 1] 3))) := below_new (below_new (Below.refl _ _))
  have HO : Hid (Ob ((w.alloc (.cells #[] 5)).alloc (.cells #[.int .i64 4294967296, .int .i64 16777216, .int .i64 65536, .int .i64 256, .int .i64 1] 3)) w.heap.size (.slice (some ⟨w.heap.size, 0, none⟩) 0 0) (fiveT n 0)) := (ob_new w w.heap.size (Nat.le_refl _)).alloc _
  have HK : Hid (Bk ((w.alloc (.cells #[] 5)).alloc (.cells #[.int .i64 4294967296, .int .i64 16777216, .int .i64 65536, .int .i64 256, .int .i64 1] 3)) (w.heap.size + 1) 3 (wts.map (Value.int .i64))) := by
    have := Bk.new (w.alloc (.cells #[] 5)) 3 (wts.map (Value.int .i64))
    show Bk _ _ _ _
    simpa [wts] using this
  go_enter Tryd.func75, Tryd.ntmps75
  go_wp2_with fail
  generalize (w.alloc (.cells #[] 5)).alloc (.cells #[.int .i64 4294967296, .int .i64 16777216, .int .i64 65536, .int .i64 256, .int .i64 1] 3) = U at *
  generalize hx : w.heap.size + 1 = x at *
  have HX : Hid (w.heap.size < x) := by show _ < _; omega
  clear hx
  go_loopw [3, 9] (fun xv i wr => ∃ (j : Nat) (av : Option Addr) (nv cv : Nat), j ≤ 5 ∧ i = .int .i64 j ∧ xv = .slice av nv cv ∧ Hid (Ob wr w.heap.size (.slice av nv cv) (fiveT n j)) ∧ Hid ((Value.slice av nv cv).ownBlock ≠ some x) ∧ Hid (Bk wr x 3 (wts.map (Value.int .i64))) ∧ Hid (Below w.heap.size w wr)) (fun _ i _ => 5 - (intOf i).toNat)
  case atStart => exact ⟨0, _, _, _, by omega, rfl, rfl, HO.out, fun e => by have h5 := HX.out; have h6 : w.heap.size = x := Option.some.inj e; omega, HK.out, HB.out⟩
  case round =>
    obtain ⟨j, av, nv, cv, hj, rfl, rfl, O1, N1, K1, B1⟩ := hrel
    clear HB HO HK
    by_cases hlt : j < 5
    · have hlt' : (j : Int) < 5 := by omega
      have m0 : wr.cell? ⟨x, j, none⟩ = some (.int .i64 (wAt j)) := K1.out.cell (by simp [wAt, wts]; match j, hlt with | 0, _ => rfl | 1, _ => rfl | 2, _ => rfl | 3, _ => rfl | 4, _ => rfl)
      obtain ⟨w1, w2⟩ := wAt_rng hlt
      have HST := hid (fiveT_succ n hlt)
      have HLN := hid (fiveT_len n (show j ≤ 5 by omega))
      generalize wAt j = W at *
      have hW : ¬ W = 0 := by omega
      have hq : n.tdiv W = n / W := Int.tdiv_eq_ediv_of_nonneg h0
      have hq0 : 0 ≤ n / W := Int.ediv_nonneg h0 (by omega)
      have hq1 : n / W ≤ n := Int.ediv_le_self _ h0
      generalize n / W = q at *
      have hr : q.tmod 256 = q % 256 := Int.tmod_eq_emod_of_nonneg hq0
      obtain ⟨z, hz, hz0, hz1⟩ : ∃ z, q % 256 = z ∧ 0 ≤ z ∧ z ≤ 255 := ⟨_, rfl, by omega, by omega⟩
      rw [hz] at hr HST
      have hwq : IntKind.i64.wrap q = q := by simp [IntKind.wrap, IntKind.signed, IntKind.bits]; omega
      have hwz : IntKind.i64.wrap z = z := by simp [IntKind.wrap, IntKind.signed, IntKind.bits]; omega
      have hw8 : IntKind.u8.wrap z = z := by simp [IntKind.wrap, IntKind.signed, IntKind.bits]; omega
      clear hz
      have ba := below_new (o := .cells #[.int .u8 z] 5) (w := wr) (Below.refl _ _)
      have O2 := hid (O1.out.keep ba)
      have K2 := hid (K1.out.below ba)
      have B2 : Hid (Below w.heap.size w (wr.alloc (.cells #[.int .u8 z] 5))) := B1.out.trans (ba.mono B1.out.size)
      have R2 := hid (rd_one wr z hz0 hz1)
      have hll : (fiveT n j).length ≤ 1048576 := by rw [HLN.out]; omega
      have HXL : Hid (x < wr.heap.size) := K1.out.lt
      clear O1 K1 B1 ba
      go_wp2_with (at_builtin; refine wpList_append_by rfl _ _ rfl w.heap.size _ (fiveT n j) rfl O2.out _ 1 1 [z] rfl R2.out hll (by omega) B2.out.size (fun e => by cases e) ?_)
      intro a3 n3 c3 w3 hO3 hg3 ha3
      have hon : Only (fun y => (Value.slice av nv cv).ownBlock = some y) _ w3 := only_of_grown hg3 (fun k e => e)
      have O3 : Hid (Ob w3 w.heap.size (.slice a3 n3 c3) (fiveT n (j + 1))) := by rw [HST.out]; exact hO3
      have K3 := hid (K2.out.to hon (fun e => N1.out e))
      have N3 : Hid ((Value.slice a3 n3 c3).ownBlock ≠ some x) := by
        intro e
        rcases ha3 with e2 | e2
        · exact N1.out (e2 ▸ e)
        · rw [e2] at e
          cases e
          have := HXL.out
          omega
      have B3 : Hid (Below w.heap.size w w3) := B2.out.trans (hon.below B2.out.size (fun b hb e => by
        have hk := World.ownsRow.lt O2.out b e
        omega))
      clear hO3 hg3 ha3 hon O2 K2 B2 R2 N1 HST
      go_wp2
      go_roundw
      case rel => exact ⟨j + 1, a3, n3, c3, by omega, by go_num, rfl, O3.out, N3.out, K3.out, B3.out⟩
      case measure => simp [intOf]; omega
    · obtain rfl : j = 5 := by omega
      have hO := O1.out
      rw [fiveT_five] at hO
      obtain ⟨a', c', e, hR, hlo⟩ := hO.rd (byte_at (five_byte n)) (by rw [five_len]; omega)
      cases e
      have hp : ∃ ad, av = some ad := by
        obtain ⟨b, off, e, _⟩ := hR.2.2.2.2.2 (by rw [five_len]; omega)
        exact ⟨_, e⟩
      obtain ⟨ad, rfl⟩ := hp
      have HR := hid hR
      have HLO := hid (hlo ad rfl)
      clear hO hR hlo O1 K1
      go_wp2
      go_ret
      exact ⟨ad, cv, rfl, HR.out, HLO.out, B1.out⟩
end Go.Proofs.YtijinngmfalfcabDoor

