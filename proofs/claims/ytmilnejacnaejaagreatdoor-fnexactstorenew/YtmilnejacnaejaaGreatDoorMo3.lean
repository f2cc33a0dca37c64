/-
  The law's helper that looks for marks in a slice of pairs: it finds them all.
-/
import Derived.Test.YtmilnejacnaejaaGreatDoorMo2
import Derived.Test.YtmilnejacnaejaaGreatDoorMo1
import Derived.Maps.AppendAt
import Derived.Deep.RegionLaw
namespace Go.Proofs.YtmilnejacnaejaaGreatDoor
open Go.RowKit
theorem kc1 {u v : World} {a0 : Addr} {x0 : Value} (h : KC u v [(a0, x0)]) : v.cell? a0 = some x0 ∧ KC u v [(a0, x0)] := ⟨h.at (by simp), h⟩
theorem kc0_1 {u : World} {a0 : Addr} {x0 : Value} (h0 : u.cell? a0 = some x0) : KC u u [(a0, x0)] := ⟨fun p hp => by simp at hp; rcases hp with rfl; assumption, Below.refl _ _⟩
theorem kc1c {u v v' : World} {a0 : Addr} {x0 : Value} (k : Below v.heap.size v v') (h : v.cell? a0 = some x0 ∧ KC u v [(a0, x0)]) : v'.cell? a0 = some x0 ∧ KC u v' [(a0, x0)] := kc1 (KC.call h.2 k)
def Lies (w : World) (a : Option Addr) (n m : Nat) (V : Nat → Value) : Prop := 0 < n → ∃ b off, a = some ⟨b, off, none⟩ ∧ b < w.heap.size ∧ ∀ j, j < m → w.cell? ⟨b, off + j, none⟩ = some (V j)
theorem Lies.below {w w' : World} {a : Option Addr} {n m : Nat} {V : Nat → Value} (h : Lies w a n m V) (hb : Below w.heap.size w w') : Lies w' a n m V := by
  intro hn
  obtain ⟨b, off, h1, h2, h3⟩ := h hn
  exact ⟨b, off, h1, Nat.lt_of_lt_of_le h2 hb.size, fun j hj => by rw [hb.cell (p := ⟨b, off + j, none⟩) h2]; exact h3 j hj⟩
theorem Marked.lies {S : Nat → Prop} {w w' : World} {a : Option Addr} {n m : Nat} {V : Nat → Value} {K : Value → Prop} (h : Marked S w a n m V K w') : Lies w' a n m V := by
  intro hn
  obtain ⟨b, off, h1, _, T, xs, h2, _, h3⟩ := h.2 hn
  exact ⟨b, off, h1, h2.lt, fun j hj => h2.cell (h3 j hj)⟩
set_option maxHeartbeats 4000000 in
theorem heldPairS_any (a : Option Addr) (n c k : Nat) (w : World) (h : Lies w a n (n * 2) (mV k)) (hc : n ≤ c) (hn : n ≤ 1048576) (hk0 : 0 < k) (hk : k ≤ 576460752303423488) :
    Calls Tryz.prog 160 #[.slice a n c, .int .i64 k] w fun e w' => e = .returned (.int .i64 ((k + n * 2 : Nat) : Int)) ∧ Below w.heap.size w w' := by
  have H0 := hid h
  clear h
  go_enter Tryz.func160, Tryz.ntmps160
  go_wp2_with fail
  go_loopw [1, 5] (fun x i wr => ∃ j : Nat, x = .int .i64 ((k + j * 2 : Nat) : Int) ∧ i = .int .i64 j ∧ j ≤ n ∧ Hid (Below w.heap.size w wr)) (fun _ i _ => n - (intOf i).toNat)
  case atStart => exact ⟨0, rfl, rfl, Nat.zero_le _, Below.refl _ _⟩
  case round =>
    obtain ⟨j, rfl, rfl, hj, HB⟩ := hrel
    by_cases hlt : j < n
    · have hlt' : (j : Int) < (n : Int) := by omega
      have hj0 : (0 : Int) ≤ (j : Int) := by omega
      obtain ⟨b, off, ha, hbl, hcell⟩ := (H0.out.below HB.out) (by omega)
      subst ha
      have c0 := hcell (j * 2) (by omega)
      have c1 := hcell (j * 2 + 1) (by omega)
      simp only [mV] at c0 c1
      rw [← Nat.add_assoc] at c1
      rw [← Nat.add_assoc] at c1
      have HT1 := hid (fun w => markText_at (k + j * 2) ((k + j * 2 : Nat) : Int) rfl w (by omega) (by omega))
      have HT2 := hid (fun w => markText_at (k + j * 2 + 1) (((k + j * 2 : Nat) : Int) + 1) (by omega) w (by omega) (by omega))
      clear hcell
      generalize mt (k + j * 2) = m1 at *
      generalize mt (k + j * 2 + 1) = m2 at *
      generalize hkz : k + j * 2 = kz at *
      have hkz1 : kz ≤ 576460754400575488 := by omega
      have HK := hid hkz
      have T1 := hid (kc0_1 c0)
      have C1' := hid c1
      clear hkz c1
      go_wp2_with fail
      go_region_held3 (fun v => v.cell? ⟨b, off + j * 2, none⟩ = some (.string m1) ∧ KC wr v [(⟨b, off + j * 2, none⟩, .string m1)])
        (first | assumption | exact kc1 (T1.out.call (below_drew _)) | exact kc1c hbC (by assumption))
        (first | (go_at_call 71; refine (HT1.out _).mono ?_; rintro e w1 ⟨rfl, hbC⟩))
      rename_i hS
      have B1 := hid hS.2.bel
      have d2 : w1.cell? ⟨b, off + j * 2 + 1, none⟩ = some (.string m2) := by rw [B1.out.cell (p := ⟨b, off + j * 2 + 1, none⟩) hbl]; exact C1'.out
      have T2 := hid (kc0_1 d2)
      clear hS c0 T1 HT1 hbC
      go_wp2_with fail
      go_region_held3 (fun v => v.cell? ⟨b, off + j * 2 + 1, none⟩ = some (.string m2) ∧ KC w1 v [(⟨b, off + j * 2 + 1, none⟩, .string m2)])
        (first | assumption | exact kc1 (T2.out.call (below_drew _)) | exact kc1c hbC (by assumption))
        (first | (go_at_call 71; refine (HT2.out _).mono ?_; rintro e w2 ⟨rfl, hbC⟩))
      rename_i hS
      have B2 := hid (Below.then' (Below.then' HB.out B1.out (Nat.le_refl _)) hS.2.bel (Nat.le_refl _))
      clear hS T2 HT2 d2
      go_wp2
      go_roundw
      case rel => exact ⟨j + 1, by rw [show k + (j + 1) * 2 = kz + 2 by have := HK.out; omega]; go_num, by go_num, by omega, B2.out⟩
      case measure => simp [intOf]; omega
    · have hlt' : ¬ (j : Int) < (n : Int) := by omega
      have hjn : j = n := by omega
      subst hjn
      have HK : Hid ((k : Int) + (j : Int) * 2 = ((k + j * 2 : Nat) : Int)) := by show _ = _; omega
      generalize k + j * 2 = kz at *
      go_wp2
      go_ret
      exact ⟨by rw [HK.out]; rfl, HB.out⟩
open Go.RowKit
set_option linter.unusedVariables false
set_option maxHeartbeats 2000000 in
theorem heldStringS_any (a : Option Addr) (n c k : Nat) (w : World) (h : Lies w a n n (mV k)) (hc : n ≤ c) (hn : n ≤ 1048576) (hk0 : 0 < k) (hk : k ≤ 576460752303423488) :
    Calls Tryz.prog 161 #[.slice a n c, .int .i64 k] w fun e w' => e = .returned (.int .i64 ((k + n : Nat) : Int)) ∧ Below w.heap.size w w' := by
  have H0 := hid h
  clear h
  go_enter Tryz.func161, Tryz.ntmps161
  go_wp2_with fail
  go_loopw [1, 5] (fun x i wr => ∃ j : Nat, x = .int .i64 ((k + j : Nat) : Int) ∧ i = .int .i64 j ∧ j ≤ n ∧ Hid (Below w.heap.size w wr)) (fun _ i _ => n - (intOf i).toNat)
  case atStart => exact ⟨0, rfl, rfl, Nat.zero_le _, Below.refl _ _⟩
  case round =>
    obtain ⟨j, rfl, rfl, hj, HB⟩ := hrel
    by_cases hlt : j < n
    · have hlt' : (j : Int) < (n : Int) := by omega
      have hj0 : (0 : Int) ≤ (j : Int) := by omega
      obtain ⟨b, off, ha, hbl, hcell⟩ := (H0.out.below HB.out) (by omega)
      subst ha
      have c0 := hcell j (by omega)
      simp only [mV] at c0
      have HT1 := hid (fun w => markText_at (k + j) ((k + j : Nat) : Int) rfl w (by omega) (by omega))
      clear hcell
      generalize mt (k + j) = m1 at *
      generalize hkz : k + j = kz at *
      have hkz1 : kz ≤ 576460754400575488 := by omega
      have HK := hid hkz
      have T1 := hid (kc0_1 c0)
      clear hkz
      go_wp2_with fail
      go_region_held3 (fun v => v.cell? ⟨b, off + j, none⟩ = some (.string m1) ∧ KC wr v [(⟨b, off + j, none⟩, .string m1)])
        (first | assumption | exact kc1 (T1.out.call (below_drew _)) | exact kc1c hbC (by assumption))
        (first | (go_at_call 71; refine (HT1.out _).mono ?_; rintro e w1 ⟨rfl, hbC⟩))
      rename_i hS
      have B1 := hid (Below.then' HB.out hS.2.bel (Nat.le_refl _))
      clear hS c0 T1 HT1 hbC
      go_wp2
      go_roundw
      case rel => exact ⟨j + 1, by rw [show k + (j + 1) = kz + 1 by have := HK.out; omega]; go_num, by go_num, by omega, B1.out⟩
      case measure => simp [intOf]; omega
    · have hlt' : ¬ (j : Int) < (n : Int) := by omega
      have hjn : j = n := by omega
      subst hjn
      have HK : Hid ((k : Int) + (j : Int) = ((k + j : Nat) : Int)) := by show _ = _; omega
      generalize k + j = kz at *
      go_wp2
      go_ret
      exact ⟨by rw [HK.out]; rfl, HB.out⟩
set_option maxHeartbeats 2000000 in
theorem heldIntS_any (a : Option Addr) (n c k : Nat) (w : World) (h : Lies w a n n (mI k)) (hc : n ≤ c) (hn : n ≤ 1048576) (hk0 : 0 < k) (hk : k ≤ 576460752303423488) :
    Calls Tryz.prog 23 #[.slice a n c, .int .i64 k] w fun e w' => e = .returned (.int .i64 ((k + n : Nat) : Int)) ∧ w' = w := by
  have H0 := hid h
  clear h
  go_enter Tryz.func23, Tryz.ntmps23
  go_wp2_with fail
  go_loop [1, 5] (fun x i => ∃ j : Nat, x = .int .i64 ((k + j : Nat) : Int) ∧ i = .int .i64 j ∧ j ≤ n) (fun _ i => n - (intOf i).toNat)
  case atStart => exact ⟨0, rfl, rfl, Nat.zero_le _⟩
  case round =>
    obtain ⟨j, rfl, rfl, hj⟩ := hrel
    by_cases hlt : j < n
    · have hlt' : (j : Int) < (n : Int) := by omega
      have hj0 : (0 : Int) ≤ (j : Int) := by omega
      obtain ⟨b, off, ha, hbl, hcell⟩ := H0.out (by omega)
      subst ha
      have c0 := hcell j (by omega)
      simp only [mI] at c0
      clear hcell
      generalize hkz : k + j = kz at *
      have hkz1 : kz ≤ 576460754400575488 := by omega
      have HK := hid hkz
      clear hkz
      go_wp2
      go_round
      case rel => exact ⟨j + 1, by rw [show k + (j + 1) = kz + 1 by have := HK.out; omega]; go_num, by go_num, by omega⟩
      case measure => simp [intOf]; omega
    · have hlt' : ¬ (j : Int) < (n : Int) := by omega
      have hjn : j = n := by omega
      subst hjn
      have HK : Hid ((k : Int) + (j : Int) = ((k + j : Nat) : Int)) := by show _ = _; omega
      generalize k + j = kz at *
      go_wp2
      go_ret
      exact ⟨by rw [HK.out]; rfl, rfl⟩
open Go.RowKit
structure PO (w : World) (kv vv iv : Value) (p : PG) : Prop where
  hk : w.ownsRow 0 9 1 kv p.keys.length (p.keys.map Value.string)
  hv : w.ownsRow 0 9 1 vv p.vals.length (p.vals.map Value.string)
  hi : w.ownsRow 0 3 1 iv p.kids.length (p.kids.map (Value.int .i64))
  ap : ∀ y, (kv.ownBlock = some y → vv.ownBlock ≠ some y ∧ iv.ownBlock ≠ some y) ∧ (vv.ownBlock = some y → iv.ownBlock ≠ some y)
structure PLie (w : World) (ka : Option Addr) (kn kc : Nat) (va : Option Addr) (vn vc : Nat) (ia : Option Addr) (jn ic : Nat) (k : Nat) : Prop where
  hk : Lies w ka kn kn (mV k)
  hv : Lies w va vn vn (mV (k + kn))
  hi : Lies w ia jn jn (mI (k + kn + vn))
  cap : kn ≤ kc ∧ vn ≤ vc ∧ jn ≤ ic
open Go.RowKit
theorem ow_new (w : World) (B : Nat) (hB : B ≤ w.heap.size) : Ow (w.alloc (.cells #[] 161)) B (.slice (some ⟨w.heap.size, 0, none⟩) 0 0) [] :=
  ⟨rfl, .inr ⟨w.heap.size, 0, #[], rfl, hB, heap_alloc_new w _, Nat.le_refl _, by decide, rfl, rfl⟩⟩
theorem own_mono {w : World} {base base' : Nat} {e : TypeId} {size : Nat} {v : Value} {n : Nat} {xs : List Value} (h : w.ownsRow base e size v n xs) (hb : base' ≤ base) : w.ownsRow base' e size v n xs := by
  refine ⟨h.1, ?_⟩
  rcases h.2 with h2 | ⟨g, cap, cur, h3, h4, h5⟩
  · exact .inl h2
  · exact .inr ⟨g, cap, cur, h3, Nat.le_trans hb h4, h5⟩
set_option maxRecDepth 100000 in
set_option maxHeartbeats 2000000 in
theorem cloneP_any (S : Nat → Prop) (v : Value) (l : List PB) (w : World) (h : Pr w S v l) (hl : l.length ≤ 1048576) :
    Calls Tryz.prog 237 #[v] w fun e w' => ∃ v', e = .returned v' ∧ Ow w' w.heap.size v' l ∧ Below w.heap.size w w' := by
  have H0 := hid h
  obtain ⟨a, c, hv, hn, hc⟩ := h.shape
  subst hv
  cases a with
  | none =>
    have hl0 : l.length = 0 := by
      rcases Nat.eq_zero_or_pos l.length with e | e
      · exact e
      · obtain ⟨b, off, e1, _⟩ := h.at e
        cases e1
    obtain rfl := List.eq_nil_of_length_eq_zero hl0
    clear h hl0
    have he : ∀ w : World, (binOp .eql 95 (.slice none 0 c) (.slice none 0 0)).run Tryz.prog w = .ok (.bool true) w := fun _ => rfl
    go_enter Tryz.func237, Tryz.ntmps237
    go_wp2
    go_ret
    exact ⟨_, rfl, ow_nil _ _, Below.refl _ _⟩
  | some x =>
    clear h
    generalize hnn : l.length = n at *
    have HN := hid hnn
    clear hnn
    have he : ∀ w : World, (binOp .eql 95 (.slice (some x) n c) (.slice none 0 0)).run Tryz.prog w = .ok (.bool false) w := fun _ => rfl
    have HO := hid (ow_new w w.heap.size (Nat.le_refl _))
    have HB := hid (below_new (o := .cells #[] 161) (w := w) (Below.refl _ _))
    go_enter Tryz.func237, Tryz.ntmps237
    go_wp2_with (at_builtin; refine wpList_append_pairs rfl _ _ rfl w.heap.size _ [] rfl HO.out S _ l rfl (H0.out.below HB.out) ?b1 ?b2 ?_)
    case b1 => have := HN.out; simp; omega
    case b2 => simp
    intro v1 w1 hO1 hg1
    have HB1 := hid (HB.out.trans (grown_belowB HO.out hg1 (by simp)))
    have HO1 : Hid (Ow w1 w.heap.size v1 l) := hO1
    obtain ⟨a1, n1, cc1, hv1, HN1⟩ := hO1.shape'
    clear hO1 hg1
    subst hv1
    go_wp2
    go_ret
    exact ⟨_, rfl, HO1.out, HB1.out⟩
theorem limb_leaf {w : World} {b : Nat} {pv : Value} {ps : List PB} {lo : Nat} (hB : Bk w b 219 [pv, .slice none 0 0]) (hb : lo ≤ b) (hP : Ow w lo pv ps) (hne : pv.ownBlock ≠ some b) (S : Nat → Prop) (hS : ∀ x, lo ≤ x → x < w.heap.size → S x) : Limb w S b (.mk ps []) := by
  refine .mk S b pv _ ps [] (fun _ => 0) (fun _ _ => False) (hS b hb hB.lt) hB (own_mono hP (Nat.zero_le _)) (World.ownsRow_nil w 0 _ _) (fun x hx => ⟨?_, ?_⟩) (fun x hx => by cases hx) (fun i hi => by simp at hi) (fun i j hi => by simp at hi) (fun i hi => by simp at hi)
  · have := World.ownsRow.lt hP x hx
    exact hS x this.1 this.2
  · rintro rfl
    exact hne hx
def LimbOr (o : Option T) (w : World) (e : Ending) (w' : World) : Prop := match o with
  | none => e = .returned (.pointer none)
  | some t => ∃ b, e = .returned (.pointer (some ⟨b, 0, none⟩)) ∧ Limb w' (fun y => w.heap.size ≤ y ∧ y < w'.heap.size) b t
def leafT (x : NB) (root : Bool) : Option T := if leafOk x root = true then some (.mk x.ps []) else none
set_option maxHeartbeats 4000000 in
theorem readLeaf_any (S : Nat → Prop) (ap ax ai : Option Addr) (np cp nx cx ni ci : Nat) (x : NB) (root : Bool) (w : World) (hP : Pr w S (.slice ap np cp) x.ps) (hS : Sr w S (.slice ax nx cx) x.keys) :
    Calls Tryz.prog 209 #[.agg #[.slice ap np cp, .slice ax nx cx, .slice ai ni ci], .bool root] w fun e w' =>
      LimbOr (leafT x root) w e w' ∧ Below w.heap.size w w' := by
  have HP := hid hP
  have HNP := hid (Rw.len hP).1
  have HNX := hid (Rw.len hS).1
  have h1 := (Rw.len hP).2.1
  have h2 := (Rw.len hP).2.2
  have h3 := (Rw.len hS).2.1
  have h4 := (Rw.len hS).2.2
  clear hP hS
  have HB0 := hid (below_new (o := .cells #[.slice ap np cp, .slice ax nx cx, .slice ai ni ci] 97) (w := w) (Below.refl _ _))
  have KP := hid (Bk.new w 97 [.slice ap np cp, .slice ax nx cx, .slice ai ni ci])
  have LF : ∀ (np nx : Nat) (r : Bool), np = x.ps.length → nx = x.keys.length → leafOk x r = !(decide (np = 0) || decide (4 < np) || (decide (np < 2) && !r) || !decide (nx = 0)) := by
    rintro _ _ r rfl rfl; rfl
  have LF := hid (LF np nx root HNP.out HNX.out)
  by_cases a1 : np = 0
  · have HF : Hid (leafOk x root = false) := by show _ = _; rw [LF.out]; simp [a1]
    clear HP HNP LF
    subst a1
    go_enter Tryz.func209, Tryz.ntmps209
    go_wp2
    go_ret
    exact ⟨by rw [leafT, if_neg (by rw [HF.out]; decide)]; rfl, HB0.out⟩
  · have e0 : ((np : Int) == 0) = false := by simp; omega
    by_cases a2 : 4 < np
    · have e1 : (4 : Int) < (np : Int) := by omega
      have e2 : ¬ (np : Int) < 2 := by omega
      have HF : Hid (leafOk x root = false) := by show _ = _; rw [LF.out]; simp [a2]
      clear LF
      go_enter Tryz.func209, Tryz.ntmps209
      go_wp2
      go_ret
      exact ⟨by rw [leafT, if_neg (by rw [HF.out]; decide)]; rfl, HB0.out⟩
    · have e1 : ¬ (4 : Int) < (np : Int) := by omega
      by_cases a3 : np < 2
      · have e2 : (np : Int) < 2 := by omega
        cases root
        · have HF : Hid (leafOk x false = false) := by show _ = _; rw [LF.out]; simp [a3]
          clear LF
          go_enter Tryz.func209, Tryz.ntmps209
          go_wp2
          go_ret
          exact ⟨by rw [leafT, if_neg (by rw [HF.out]; decide)]; rfl, HB0.out⟩
        · by_cases a4 : nx = 0
          · have HF : Hid (leafOk x true = true) := by show _ = _; rw [LF.out]; simp [a1, a2, a4]
            have e4 : ((nx : Int) != 0) = false := by simp; omega
            clear LF a4
            have c0 := KP.out.cell (j := 0) rfl
            go_enter Tryz.func209, Tryz.ntmps209
            go_wp2_with fail
            refine (cloneP_any S (.slice ap np cp) x.ps _ (HP.out.below HB0.out) (by rw [← HNP.out]; omega)).mono ?_
            rintro e w1 ⟨v1, rfl, hO1, hb1⟩
            obtain ⟨a1, n1, cc1, hv1, HN1⟩ := hO1.shape'
            subst hv1
            have HO1 := hid hO1
            have HB1 := hid (HB0.out.trans (hb1.mono HB0.out.size))
            have HSZ : Hid (w.heap.size < w1.heap.size) := by have := hb1.size; simp at this; exact this
            clear hO1 hb1 c0
            go_wp2
            go_ret
            refine ⟨?_, HB1.out.alloc HB1.out.size _⟩
            rw [leafT, if_pos HF.out]
            refine ⟨_, rfl, ?_⟩
            refine limb_leaf (lo := w.heap.size) (Bk.new w1 219 [.slice a1 n1 cc1, .slice none 0 0]) (Nat.le_of_lt HSZ.out) (own_mono (HO1.out.kept (below_new (Below.refl _ _))) (by simp)) ?_ _ (fun y h1 h2 => ⟨h1, h2⟩)
            intro e
            have := (World.ownsRow.lt HO1.out _ e).2
            omega
          · have HF : Hid (leafOk x true = false) := by show _ = _; rw [LF.out]; simp [a4]
            have e4 : ((nx : Int) != 0) = true := by simp; omega
            clear LF a4
            go_enter Tryz.func209, Tryz.ntmps209
            go_wp2
            go_ret
            exact ⟨by rw [leafT, if_neg (by rw [HF.out]; decide)]; rfl, HB0.out⟩
      · have e2 : ¬ (np : Int) < 2 := by omega
        by_cases a4 : nx = 0
        · have HF : Hid (leafOk x root = true) := by show _ = _; rw [LF.out]; simp [a1, a2, a3, a4]
          have e4 : ((nx : Int) != 0) = false := by simp; omega
          clear LF a4
          have c0 := KP.out.cell (j := 0) rfl
          go_enter Tryz.func209, Tryz.ntmps209
          go_wp2_with fail
          refine (cloneP_any S (.slice ap np cp) x.ps _ (HP.out.below HB0.out) (by rw [← HNP.out]; omega)).mono ?_
          rintro e w1 ⟨v1, rfl, hO1, hb1⟩
          obtain ⟨a1, n1, cc1, hv1, HN1⟩ := hO1.shape'
          subst hv1
          have HO1 := hid hO1
          have HB1 := hid (HB0.out.trans (hb1.mono HB0.out.size))
          have HSZ : Hid (w.heap.size < w1.heap.size) := by have := hb1.size; simp at this; exact this
          clear hO1 hb1 c0
          go_wp2
          go_ret
          refine ⟨?_, HB1.out.alloc HB1.out.size _⟩
          rw [leafT, if_pos HF.out]
          refine ⟨_, rfl, ?_⟩
          refine limb_leaf (lo := w.heap.size) (Bk.new w1 219 [.slice a1 n1 cc1, .slice none 0 0]) (Nat.le_of_lt HSZ.out) (own_mono (HO1.out.kept (below_new (Below.refl _ _))) (by simp)) ?_ _ (fun y h1 h2 => ⟨h1, h2⟩)
          intro e
          have := (World.ownsRow.lt HO1.out _ e).2
          omega
        · have HF : Hid (leafOk x root = false) := by show _ = _; rw [LF.out]; simp [a4]
          have e4 : ((nx : Int) != 0) = true := by simp; omega
          clear LF a4
          go_enter Tryz.func209, Tryz.ntmps209
          go_wp2
          go_ret
          exact ⟨by rw [leafT, if_neg (by rw [HF.out]; decide)]; rfl, HB0.out⟩
open Go.RowKit
def mkV (L : Nat → Bool) (P K : Nat → Value) (n : Nat) : List V3 := (List.range n).map fun i => (.bool (L i), P i, K i)
inductive Sub (w : World) (S : Nat → Prop) : Bool → Value → Value → T → Prop
  | mk (lf : Bool) (pv kv : Value) (ps : List PB) (ks : List T) (L : Nat → Bool) (P K : Nat → Value) (hlf : lf = decide (ks.length = 0)) (hP : Pr w S pv ps)
      (hK : Rw w S kv ks.length (ncs (mkV L P K ks.length))) (hk : ∀ i, i < ks.length → Sub w S (L i) (P i) (K i) (tAt ks i)) : Sub w S lf pv kv (.mk ps ks)
open Go.RowKit
open Go.RowKit
theorem infoPtrL : (Tryz.prog.info? 166).map (fun i => (i.zero, i.size, i.bytes)) = some (some (.pointer none), 1, 8) := by kernel_rfl
def Ok (w : World) (base : Nat) (v : Value) (n : Nat) (A : Nat → Nat) : Prop := w.ownsRow base 166 1 v n (ptrs A n)
theorem Ok.to {w w' : World} {R : Nat → Prop} {base n : Nat} {v : Value} {A : Nat → Nat} (h : Ok w base v n A) (ho : Only R w w') (hR : ∀ k, v.ownBlock = some k → ¬ R k) : Ok w' base v n A := own_kept h ho hR
theorem Ok.kept {w w' : World} {base n : Nat} {v : Value} {A : Nat → Nat} (h : Ok w base v n A) (hb : Below w.heap.size w w') : Ok w' base v n A := h.to (only_of_below hb (fun _ => False)) (fun _ _ h => h)
theorem Ok.shape {w : World} {base n : Nat} {v : Value} {A : Nat → Nat} (h : Ok w base v n A) : ∃ a c, v = .slice a n c := own_shape h
theorem ptrs_snoc (A : Nat → Nat) (n b : Nat) : ptrs A n ++ [ptr b] = ptrs (fun i => if i = n then b else A i) (n + 1) := by
  simp only [ptrs, List.range_succ, List.map_append, List.map_cons, List.map_nil, if_true]
  congr 1
  apply List.map_congr_left
  intro i hi
  rw [if_neg (by have := List.mem_range.1 hi; omega)]
theorem wpList_append_ptr {w : World} {ops : Array Oper} {rest : List Oper} {o : Oper} {a : Act} {Q : Exit → Act → World → Prop} (hgd : o.guard = none) (s x : Operand)
    (ho : o.op = .call { callee := .builtin .append, args := #[s, x], argTypes := #[217, 217] }) (base : Nat) (v : Value) (n : Nat) (A : Nat → Nat) (hs : a.eval s = v) (hown : Ok w base v n A)
    (g b : Nat) (hx : a.eval x = .slice (some ⟨g, 0, none⟩) 1 1) (hc : w.cell? ⟨g, 0, none⟩ = some (.pointer (some ⟨b, 0, none⟩))) (hb : n ≤ 1048576) (hbase : base ≤ w.heap.size)
    (h : ∀ v' w', Ok w' base v' (n + 1) (fun i => if i = n then b else A i) → w.grownBy w' v.ownBlock → (v'.ownBlock = v.ownBlock ∨ v'.ownBlock = some w.heap.size) → wpList Tryz.prog ops Q rest (a.put o.dst v') w') : wpList Tryz.prog ops Q (o :: rest) a w := by
  obtain ⟨i, hi, hz, hsz, hby⟩ := info_of infoPtrL
  refine wpList_append_row_at hgd s x 217 ho base 166 i _ 1 8 Tryz.underlying217 hi hz hsz hby rfl (by decide) v n (ptrs A n) hs hown (fun _ => True) _ 1 [ptr b] hx ?_ rfl (by intro u hu; simp at hu; subst hu; rfl) (by unfold maxLen; omega) (by omega) hbase ?_
  · refine ⟨_, 1, rfl, Nat.le_refl _, by omega, fun h => by omega, fun h => (by cases h), fun _ => ⟨g, 0, rfl, block_lt hc, trivial, fun j u hu => ?_⟩⟩
    cases j with
    | zero => simp at hu; subst hu; simpa [ptr] using hc
    | succ j => simp at hu
  · intro v' w' h1 h2 h3
    refine h v' w' ?_ h2 h3
    unfold Ok
    rw [← ptrs_snoc]
    exact h1
theorem tAt_snoc (ts : List T) (t : T) (i : Nat) (h : i < (ts ++ [t]).length) : tAt (ts ++ [t]) i = if i = ts.length then t else tAt ts i := by
  by_cases e : i = ts.length
  · subst e; simp [tAt]
  · simp at h
    rw [if_neg e]
    simp [tAt, List.getElem?_append_left (show i < ts.length by omega)]
theorem full_ne : ∀ (t : T) (r : Bool), t.full r = true → t.ne
  | .mk ps [], r, h => by
    have := full_lf h
    show ps ≠ []
    rintro rfl
    simp at this
  | .mk ps (k :: ks), r, h => by
    have := full_br h (by simp)
    exact full_ne k false (this.2.2.2 k (by simp))
structure Rdy (t : T) : Prop where
  ne : t.ne
  bare : t.bare = false
  few : t.ps.length + t.ks.length ≤ 1048576
  lv : t.lv ≤ 1048576
theorem full_few {t : T} {r : Bool} (h : t.full r = true) : t.ps.length + t.ks.length ≤ 8 ∧ t.bare = false := by
  obtain ⟨ps, ks⟩ := t
  by_cases hk : ks = []
  · subst hk
    have := full_lf h
    simp [T.ps, T.ks, T.bare]
    refine ⟨by omega, ?_⟩
    rintro rfl
    simp at this
  · have := full_br h hk
    simp only [T.ps, T.ks, T.bare, this.2.2.1, List.length_nil, decide_eq_false_iff_not]
    omega
theorem rdy_of {h : Nat} {t : T} {r : Bool} (e : Ev h t) (hu : t.full r = true) (hs : t.size ≤ 1048576) : Rdy t := by
  have h1 := full_few hu
  have h2 := ev_le_size e hu
  have h3 := ev_lv h t e
  exact ⟨full_ne t r hu, h1.2, by omega, by omega⟩
theorem pre_len {ns l : List NB} {a : Nat} (h : Pre ns a l) (hl : 0 < l.length) : a + l.length ≤ ns.length := by
  have := h (l.length - 1) (by omega)
  rw [List.getElem?_eq_getElem (by omega : l.length - 1 < l.length)] at this
  have := (List.getElem?_eq_some_iff.1 this).1
  omega
theorem rdI_rdy {ns : List NB} {f : Nat} {pl : Int} {nx n1 : Nat} {t : T} (h : rdI ns f pl nx = some (t, n1)) (hl : ns.length ≤ 1048576) : Rdy t ∧ n1 ≤ ns.length ∧ nx < n1 := by
  obtain ⟨_, h2, h3, ⟨e, h4⟩, h5, rfl⟩ := rdI_sound ns f pl nx t n1 h
  have h6 := pre_len h5 (by rw [lay_length]; exact T.size_pos t)
  rw [lay_length] at h6
  have := T.size_pos t
  exact ⟨rdy_of h4 h3 (by omega), by omega, by omega⟩
def ReadPost (o : Option (T × Nat)) (w : World) (wb : Nat) (nv : Value) (e : Ending) (w' : World) : Prop := match o with
  | none => e = .returned (.pointer none)
  | some (t, n1) => ∃ b, e = .returned (.pointer (some ⟨b, 0, none⟩)) ∧ Limb w' (fun y => w.heap.size ≤ y ∧ y < w'.heap.size) b t ∧ Bk w' wb 221 [nv, .int .i64 n1]
def ReadC (ns : List NB) (f : Nat) : Prop := ∀ (S : Nat → Prop) (wb : Nat) (an : Option Addr) (nn cn : Nat) (pl : Int) (nx : Nat) (w : World), Bk w wb 221 [.slice an nn cn, .int .i64 nx] → Nr w S (.slice an nn cn) ns → ¬ S wb → ns.length < 400 → nx ≤ ns.length → ns.length ≤ nx + f →
  Calls Tryz.prog 174 #[.pointer (some ⟨wb, 0, none⟩), .int .i64 pl] w fun e w' => ReadPost (rdI ns f pl nx) w wb (.slice an nn cn) e w' ∧ Only (fun b => b = wb) w w'
def brT (ns : List NB) (f : Nat) (x : NB) (nx : Nat) : Option (T × Nat) := if brOk x = true then (match rdIL (rdI ns f) x.keys [] x.kids nx with
  | none => none
  | some (ts, n) => some (.mk [] ts, n)) else none
open Go.RowKit
structure SpI (w wr : World) (sb bs : Nat) (lf : Bool) (nv pv : Value) (ps : List PB) (ts : List T) (kv : Value) (L : Nat → Bool) (P K : Nat → Value) : Prop where
  lo : w.heap.size + 3 ≤ sb ∧ sb < bs
  hi : bs ≤ wr.heap.size
  tre : Bk wr w.heap.size 28 [nv]
  res : Bk wr (w.heap.size + 1) 149 [.bool false, .slice none 0 0, .slice none 0 0]
  sub : Bk wr sb 149 [.bool lf, pv, kv]
  par : Pr wr (fun y => w.heap.size + 3 ≤ y ∧ y < bs ∧ y ≠ sb) pv ps
  row : wr.ownsRow bs 149 3 kv ts.length (ncs (mkV L P K ts.length))
  kid : ∀ i, i < ts.length → Sub wr (fun y => bs ≤ y ∧ y < wr.heap.size ∧ kv.ownBlock ≠ some y) (L i) (P i) (K i) (tAt ts i)
  bel : Below w.heap.size w wr
open Go.RowKit
def OwN (w : World) (p : V3) (x : NB) : Prop := w.ownsRow 0 161 2 p.1 x.ps.length (pcs x.ps) ∧ w.ownsRow 0 9 1 p.2.1 x.keys.length (x.keys.map Value.string) ∧ w.ownsRow 0 3 1 p.2.2 x.kids.length (x.kids.map (Value.int .i64))
def bl (p : V3) (y : Nat) : Prop := p.1.ownBlock = some y ∨ p.2.1.ownBlock = some y ∨ p.2.2.ownBlock = some y
def ap3 (p : V3) : Prop := ∀ y, (p.1.ownBlock = some y → p.2.1.ownBlock ≠ some y ∧ p.2.2.ownBlock ≠ some y) ∧ (p.2.1.ownBlock = some y → p.2.2.ownBlock ≠ some y)
theorem OwN.to {w w' : World} {R : Nat → Prop} {p : V3} {x : NB} (h : OwN w p x) (ho : Only R w w') (hR : ∀ y, bl p y → ¬ R y) : OwN w' p x :=
  ⟨own_kept h.1 ho (fun y e => hR y (.inl e)), own_kept h.2.1 ho (fun y e => hR y (.inr (.inl e))), own_kept h.2.2 ho (fun y e => hR y (.inr (.inr e)))⟩
theorem OwN.lt {w : World} {p : V3} {x : NB} (h : OwN w p x) {y : Nat} (hy : bl p y) : y < w.heap.size := by
  rcases hy with e | e | e
  · exact (World.ownsRow.lt h.1 y e).2
  · exact (World.ownsRow.lt h.2.1 y e).2
  · exact (World.ownsRow.lt h.2.2 y e).2
def N1K (w : World) (F : Nat → Prop) (p : V3) (x : NB) : Prop := N1 w F p x ∧ OwN w p x ∧ ap3 p ∧ ∀ y, bl p y → F y
def apartV (V : List V3) (n : Nat) : Prop := ∀ i j, i < n → j < n → i ≠ j → ∀ y, bl (vAt V i) y → ¬ bl (vAt V j) y
def NO (w : World) (F : Nat → Prop) (v : Value) (ns : List NB) : Prop :=
  ∃ V : List V3, V.length = ns.length ∧ w.ownsRow 0 97 3 v ns.length (ncs V) ∧ (∀ i, i < ns.length → N1K w F (vAt V i) (nAt ns i)) ∧ (∀ y, F y → y < w.heap.size ∧ v.ownBlock ≠ some y) ∧ apartV V ns.length
structure LyI (w wr : World) (F : Nat → Prop) (v vv q0 q1 q2 : Value) (nb : Nat) (kx ki : Value) (Fk : Nat → Prop) (L : List NB) (keys : List ByteArray) (kids : List Int) : Prop where
  fw : ∀ y, F y → y < w.heap.size
  vw : ∀ y, v.ownBlock = some y → y < w.heap.size
  lo : w.heap.size < nb
  nodes : NO wr Fk vv L
  par : Bk wr w.heap.size 149 [q0, q1, q2]
  nod : Bk wr nb 97 [.slice none 0 0, kx, ki]
  rx : wr.ownsRow 0 9 1 kx keys.length (keys.map Value.string)
  ri : wr.ownsRow 0 3 1 ki kids.length (kids.map (Value.int .i64))
  fk : ∀ y, Fk y → (F y ∨ w.heap.size < y) ∧ y ≠ nb ∧ kx.ownBlock ≠ some y ∧ ki.ownBlock ≠ some y
  ff : ∀ y, F y → Fk y
  vb : ∀ y, vv.ownBlock = some y → (v.ownBlock = some y ∨ w.heap.size < y) ∧ y ≠ nb ∧ kx.ownBlock ≠ some y ∧ ki.ownBlock ≠ some y
  xb : ∀ y, kx.ownBlock = some y → w.heap.size < y ∧ y ≠ nb ∧ ki.ownBlock ≠ some y
  ib : ∀ y, ki.ownBlock = some y → w.heap.size < y ∧ y ≠ nb
  only : Only (fun y => v.ownBlock = some y) w wr
open Go.RowKit
structure KO (R : Nat → Prop) (u v : World) (cs : List (Addr × Value)) : Prop where
  cells : ∀ p ∈ cs, u.cell? p.1 = some p.2 ∧ ¬ R p.1.block
  only : Only R u v
open Go.RowKit
structure NA (w : World) (v : Value) (V : List V3) (ns : List NB) : Prop where
  len : V.length = ns.length
  row : w.ownsRow 0 97 3 v ns.length (ncs V)
  own : ∀ i, i < ns.length → OwN w (vAt V i) (nAt ns i) ∧ ap3 (vAt V i)
  apart : ∀ i j, i < ns.length → j < ns.length → i ≠ j → ∀ y, bl (vAt V i) y → ¬ bl (vAt V j) y
  off : ∀ i, i < ns.length → ∀ y, bl (vAt V i) y → v.ownBlock ≠ some y
theorem NA.to {w w' : World} {R : Nat → Prop} {v : Value} {V : List V3} {ns : List NB} (h : NA w v V ns) (ho : Only R w w') (hv : ∀ y, v.ownBlock = some y → ¬ R y) (hR : ∀ i, i < ns.length → ∀ y, bl (vAt V i) y → ¬ R y) : NA w' v V ns :=
  ⟨h.len, own_kept h.row ho hv, fun i hi => ⟨(h.own i hi).1.to ho (hR i hi), (h.own i hi).2⟩, h.apart, h.off⟩
theorem NA.kept {w w' : World} {v : Value} {V : List V3} {ns : List NB} (h : NA w v V ns) (hb : Below w.heap.size w w') : NA w' v V ns := h.to (only_of_below hb (fun _ => False)) (fun _ _ h => h) (fun _ _ _ _ h => h)
theorem na_nil (w : World) : NA w (.slice none 0 0) [] [] := ⟨rfl, World.ownsRow_nil _ _ _ _, fun i hi => by simp at hi, fun i j hi => by simp at hi, fun i hi => by simp at hi⟩
theorem NA.nr {w : World} {v : Value} {V : List V3} {ns : List NB} (h : NA w v V ns) {S : Nat → Prop} (hS : ∀ y, y < w.heap.size → S y) : Nr w S v ns :=
  ⟨V, h.len, rw_own h.row (fun k _ _ h => hS k h), fun i hi => ⟨rw_own (h.own i hi).1.1 (fun k _ _ h => hS k h), rw_own (h.own i hi).1.2.1 (fun k _ _ h => hS k h), rw_own (h.own i hi).1.2.2 (fun k _ _ h => hS k h)⟩⟩
structure NI (w wr : World) (v vv : Value) (V0 V : List V3) (ns L : List NB) (P : Nat → Prop) : Prop where
  na : NA wr vv V L
  old : ∀ i, i < ns.length → vAt V i = vAt V0 i
  new : ∀ i, ns.length ≤ i → i < L.length → ∀ y, bl (vAt V i) y → P y ∨ w.heap.size ≤ y
  only : Only (fun y => v.ownBlock = some y) w wr
  vb : ∀ y, vv.ownBlock = some y → v.ownBlock = some y ∨ w.heap.size ≤ y
open Go.RowKit
theorem ownD_base {w : World} {B B' : Nat} {e : TypeId} {size : Nat} {v : Value} {n : Nat} {xs : List Value} (h : w.ownsRow B e size v n xs) (hB : B' ≤ B) : w.ownsRow B' e size v n xs := by
  refine ⟨h.1, h.2.imp id ?_⟩
  rintro ⟨g, cap, cur, k1, k2, k3⟩
  exact ⟨g, cap, cur, k1, by omega, k3⟩
theorem bk_own {w : World} {g B : Nat} {T : TypeId} {xs : List Value} {n size : Nat} (h : Bk w g T xs) (hl : xs.length = n * size) (hn : n ≤ 1048576) (hB : B ≤ g) : w.ownsRow B T size (.slice (some ⟨g, 0, none⟩) n n) n xs :=
  ⟨hl, .inr ⟨g, n, xs.toArray, rfl, hB, h, Nat.le_refl _, by unfold maxLen; omega, by simpa using hl, by simp [← hl]⟩⟩
theorem ownD_set {w : World} {B : Nat} {E : TypeId} {s g n c m : Nat} {xs : List Value} (h : w.ownsRow B E s (.slice (some ⟨g, 0, none⟩) n c) m xs) (j : Nat) (u : Value) : (w.setCell ⟨g, j, none⟩ u).ownsRow B E s (.slice (some ⟨g, 0, none⟩) n c) m (xs.set j u) := by
  obtain ⟨k1, k2⟩ := h
  rcases k2 with ⟨k2, _⟩ | ⟨g', cap, cur, e, k3, k4, k5, k6, k7, k8⟩
  · cases k2
  · cases e
    refine ⟨by simpa using k1, .inr ⟨g, c, cur.setIfInBounds j u, rfl, k3, ?_, k5, k6, by simpa using k7, ?_⟩⟩
    · simp [World.setCell, Array.getElem?_modify, k4]
    · rw [← k8]
      simp only [Array.toList_setIfInBounds, List.take_set]
theorem own_at {w : World} {B : Nat} {E : TypeId} {s : Nat} {a : Option Addr} {n c m : Nat} {xs : List Value} (h : w.ownsRow B E s (.slice a n c) m xs) : n = m ∧ n ≤ c ∧ c ≤ 9223372036854775807 ∧ (0 < n → ∃ g, a = some ⟨g, 0, none⟩ ∧ B ≤ g ∧ g < w.heap.size ∧ (∀ o, w.frozen? ⟨g, o, none⟩ = false) ∧ ∀ (j : Nat) u, xs[j]? = some u → w.cell? ⟨g, j, none⟩ = some u) := by
  have hc := fun g hg => World.ownsRow.cells h (g := g) hg
  have hlt := World.ownsRow.lt h
  rcases h.2 with ⟨e, e2⟩ | ⟨g, cap, cur, e, hB, hg, k5, k6, k7, k8⟩
  · cases e; exact ⟨e2.symm, Nat.le_refl _, by omega, fun h => by omega⟩
  · have e2 : a = some ⟨g, 0, none⟩ ∧ n = m ∧ c = cap := by cases e; exact ⟨rfl, rfl, rfl⟩
    obtain ⟨rfl, rfl, rfl⟩ := e2
    refine ⟨rfl, k5, by unfold maxLen at k6; omega, fun _ => ⟨g, rfl, hB, (hlt g rfl).2, fun o => by simp [World.frozen?, hg], fun j u hu => ?_⟩⟩
    have := hc g rfl j u hu
    rwa [Addr.add_lit, Nat.zero_add] at this
structure SOw (w : World) (B : Nat) (v : Value) (V : List Value) (ss : List (List Int)) : Prop where
  len : V.length = ss.length
  row : w.ownsRow B 130 1 v ss.length V
  own : ∀ i, i < ss.length → Ob w B (uAt V i) (shAt ss i) ∧ byt (shAt ss i)
  apart : ∀ i j, i < ss.length → j < ss.length → i ≠ j → ∀ y, (uAt V i).ownBlock = some y → (uAt V j).ownBlock ≠ some y
  off : ∀ i, i < ss.length → ∀ y, (uAt V i).ownBlock = some y → v.ownBlock ≠ some y
def sbl (v : Value) (V : List Value) (y : Nat) : Prop := v.ownBlock = some y ∨ ∃ i, i < V.length ∧ (uAt V i).ownBlock = some y
theorem SOw.to {w w' : World} {B : Nat} {R : Nat → Prop} {v : Value} {V : List Value} {ss : List (List Int)} (h : SOw w B v V ss) (ho : Only R w w') (hR : ∀ y, sbl v V y → ¬ R y) : SOw w' B v V ss :=
  ⟨h.len, own_kept h.row ho (fun y e => hR y (.inl e)), fun i hi => ⟨own_kept (h.own i hi).1 ho (fun y e => hR y (.inr ⟨i, by rw [h.len]; exact hi, e⟩)), (h.own i hi).2⟩, h.apart, h.off⟩
theorem SOw.below {w w' : World} {B : Nat} {v : Value} {V : List Value} {ss : List (List Int)} (h : SOw w B v V ss) (hb : Below w.heap.size w w') : SOw w' B v V ss := h.to (only_of_below hb (fun _ => False)) (fun _ _ h => h)
theorem SOw.base {w : World} {B B' : Nat} {v : Value} {V : List Value} {ss : List (List Int)} (h : SOw w B v V ss) (hB : B' ≤ B) : SOw w B' v V ss :=
  ⟨h.len, ownD_base h.row hB, fun i hi => ⟨ownD_base (h.own i hi).1 hB, (h.own i hi).2⟩, h.apart, h.off⟩
theorem SOw.lt {w : World} {B : Nat} {v : Value} {V : List Value} {ss : List (List Int)} (h : SOw w B v V ss) {y : Nat} (hy : sbl v V y) : B ≤ y ∧ y < w.heap.size := by
  rcases hy with e | ⟨i, hi, e⟩
  · exact World.ownsRow.lt h.row y e
  · exact World.ownsRow.lt (h.own i (by rw [← h.len]; exact hi)).1 y e
theorem SOw.shr {w : World} {B : Nat} {v : Value} {V : List Value} {ss : List (List Int)} (h : SOw w B v V ss) {S : Nat → Prop} (hS : ∀ y, sbl v V y → S y) : Shr w S v ss :=
  ⟨V, h.len, rw_own h.row (fun k e _ _ => hS k (.inl e)), fun i hi => by_ob (h.own i hi).1 (h.own i hi).2 (fun k e _ _ => hS k (.inr ⟨i, by rw [h.len]; exact hi, e⟩))⟩
theorem so_nil (w : World) (B : Nat) : SOw w B (.slice none 0 0) [] [] := ⟨rfl, World.ownsRow_nil _ _ _ _, fun i hi => by simp at hi, fun i j hi => by simp at hi, fun i hi => by simp at hi⟩
theorem uAt_left {V : List Value} {p : Value} {i : Nat} (h : i < V.length) : uAt (V ++ [p]) i = uAt V i := by simp [uAt, List.getElem?_append_left h]
theorem uAt_end (V : List Value) (p : Value) : uAt (V ++ [p]) V.length = p := by simp [uAt]
theorem shAt_left {V : List (List Int)} {p : List Int} {i : Nat} (h : i < V.length) : shAt (V ++ [p]) i = shAt V i := by simp [shAt, List.getElem?_append_left h]
theorem shAt_end (V : List (List Int)) (p : List Int) : shAt (V ++ [p]) V.length = p := by simp [shAt]
theorem uAt_set {V : List Value} {p : Value} {i : Nat} (h : i < V.length) : uAt (V.set i p) i = p := by simp [uAt, h]
theorem uAt_other {V : List Value} {p : Value} {i j : Nat} (h : i ≠ j) : uAt (V.set j p) i = uAt V i := by simp [uAt, Ne.symm h]
theorem shAt_set {V : List (List Int)} {p : List Int} {i : Nat} (h : i < V.length) : shAt (V.set i p) i = p := by simp [shAt, h]
theorem shAt_other {V : List (List Int)} {p : List Int} {i j : Nat} (h : i ≠ j) : shAt (V.set j p) i = shAt V i := by simp [shAt, Ne.symm h]
theorem SOw.push {u w2 : World} {B : Nat} {v v' : Value} {V : List Value} {ss : List (List Int)} (h : SOw u B v V ss) (x : List Int) (p : Value) (hx : Ob u B p x) (hxb : byt x) (hd : ∀ y, p.ownBlock = some y → ¬ sbl v V y)
    (ho : w2.ownsRow B 130 1 v' (ss.length + 1) (V ++ [p])) (hg : u.grownBy w2 v.ownBlock) (ha : v'.ownBlock = v.ownBlock ∨ v'.ownBlock = some u.heap.size) :
    SOw w2 B v' (V ++ [p]) (ss ++ [x]) := by
  have o : Only (fun y => v.ownBlock = some y) u w2 := only_of_grown hg (fun k e => e)
  have hl := h.len
  have hat : ∀ i, i < (ss ++ [x]).length → (i < ss.length ∧ uAt (V ++ [p]) i = uAt V i ∧ shAt (ss ++ [x]) i = shAt ss i) ∨ (i = ss.length ∧ uAt (V ++ [p]) i = p ∧ shAt (ss ++ [x]) i = x) := by
    intro i hi
    simp at hi
    by_cases e : i < ss.length
    · exact .inl ⟨e, uAt_left (by omega), shAt_left e⟩
    · obtain rfl : i = ss.length := by omega
      exact .inr ⟨rfl, by rw [← hl, uAt_end], shAt_end _ _⟩
  refine ⟨by simp [hl], by rw [List.length_append]; exact ho, fun i hi => ?_, fun i j hi hj hij y hy hz => ?_, fun i hi y hy hv => ?_⟩
  · rcases hat i hi with ⟨e, e1, e2⟩ | ⟨e, e1, e2⟩
    · rw [e1, e2]; exact ⟨own_kept (h.own i e).1 o (h.off i e), (h.own i e).2⟩
    · rw [e1, e2]; exact ⟨own_kept hx o (fun y hy e => hd y hy (.inl e)), hxb⟩
  · rcases hat i hi with ⟨e, e1, _⟩ | ⟨e, e1, _⟩
    · rw [e1] at hy
      rcases hat j hj with ⟨d, d1, _⟩ | ⟨d, d1, _⟩
      · rw [d1] at hz; exact h.apart i j e d hij y hy hz
      · rw [d1] at hz; exact hd y hz (.inr ⟨i, by omega, hy⟩)
    · rw [e1] at hy
      rcases hat j hj with ⟨d, d1, _⟩ | ⟨d, d1, _⟩
      · rw [d1] at hz; exact hd y hy (.inr ⟨j, by omega, hz⟩)
      · omega
  · have : y < u.heap.size ∧ v.ownBlock ≠ some y := by
      rcases hat i hi with ⟨e, e1, _⟩ | ⟨e, e1, _⟩
      · rw [e1] at hy; exact ⟨(World.ownsRow.lt (h.own i e).1 y hy).2, h.off i e y hy⟩
      · rw [e1] at hy; exact ⟨(World.ownsRow.lt hx y hy).2, fun e => hd y hy (.inl e)⟩
    rcases ha with ha | ha
    · rw [ha] at hv; exact this.2 hv
    · rw [ha] at hv; cases hv; omega
theorem SOw.upd {u w2 w3 : World} {B : Nat} {v : Value} {V : List Value} {ss : List (List Int)} {k : Nat} {p : Value} {x : List Int} {g : Nat} (h : SOw u B v V ss) (hk : k < ss.length) (hv : v.ownBlock = some g) (hb : Below u.heap.size u w2) (hx : Ob w2 u.heap.size p x) (hxb : byt x) (hB : B ≤ u.heap.size)
    (o3 : Only (fun y => y = g) w2 w3) (hrow : w3.ownsRow B 130 1 v ss.length (V.set k p)) : SOw w3 B v (V.set k p) (ss.set k x) := by
  have hl := h.len
  have hg : g < u.heap.size := (World.ownsRow.lt h.row g hv).2
  have hp : ∀ y, p.ownBlock = some y → u.heap.size ≤ y := fun y e => (World.ownsRow.lt hx y e).1
  have hold : ∀ i, i < ss.length → ∀ y, (uAt V i).ownBlock = some y → y < u.heap.size := fun i hi y e => (World.ownsRow.lt (h.own i hi).1 y e).2
  refine ⟨by simp [hl], by rw [List.length_set]; exact hrow, fun i hi => ?_, fun i j hi hj hij y hy hz => ?_, fun i hi y hy hv' => ?_⟩
  · rw [List.length_set] at hi
    by_cases e : i = k
    · subst e
      rw [uAt_set (by omega), shAt_set hi]
      exact ⟨ownD_base (own_kept hx o3 (fun y e e2 => by have := hp y e; omega)) hB, hxb⟩
    · rw [uAt_other e, shAt_other e]
      exact ⟨own_kept (own_kept (h.own i hi).1 (only_of_below hb (fun _ => False)) (fun _ _ h => h)) o3 (fun y hy e2 => h.off i hi y hy (by rw [hv, e2])), (h.own i hi).2⟩
  · rw [List.length_set] at hi hj
    by_cases e : i = k
    · subst e
      rw [uAt_set (by omega)] at hy
      rw [uAt_other (Ne.symm hij)] at hz
      have := hp y hy
      have := hold j hj y hz
      omega
    · rw [uAt_other e] at hy
      by_cases e2 : j = k
      · subst e2
        rw [uAt_set (by omega)] at hz
        have := hp y hz
        have := hold i hi y hy
        omega
      · rw [uAt_other e2] at hz; exact h.apart i j hi hj hij y hy hz
  · rw [List.length_set] at hi
    rw [hv] at hv'
    cases hv'
    by_cases e : i = k
    · subst e
      rw [uAt_set (by omega)] at hy
      have := hp _ hy
      omega
    · rw [uAt_other e] at hy; exact h.off i hi _ hy hv
structure WO (w : World) (B : Nat) (v : Value) (U : List (Int × Value)) (ds : List DW) : Prop where
  len : U.length = ds.length
  row : w.ownsRow B 99 2 v ds.length (wcs U)
  own : ∀ i, i < ds.length → (xAt U i).1 = (dwAt ds i).1 ∧ Ob w B (xAt U i).2 (dwAt ds i).2 ∧ byt (dwAt ds i).2
  apart : ∀ i j, i < ds.length → j < ds.length → i ≠ j → ∀ y, (xAt U i).2.ownBlock = some y → (xAt U j).2.ownBlock ≠ some y
  off : ∀ i, i < ds.length → ∀ y, (xAt U i).2.ownBlock = some y → v.ownBlock ≠ some y
def wbl (v : Value) (U : List (Int × Value)) (y : Nat) : Prop := v.ownBlock = some y ∨ ∃ i, i < U.length ∧ (xAt U i).2.ownBlock = some y
theorem WO.to {w w' : World} {B : Nat} {R : Nat → Prop} {v : Value} {U : List (Int × Value)} {ds : List DW} (h : WO w B v U ds) (ho : Only R w w') (hR : ∀ y, wbl v U y → ¬ R y) : WO w' B v U ds :=
  ⟨h.len, own_kept h.row ho (fun y e => hR y (.inl e)), fun i hi => ⟨(h.own i hi).1, own_kept (h.own i hi).2.1 ho (fun y e => hR y (.inr ⟨i, by rw [h.len]; exact hi, e⟩)), (h.own i hi).2.2⟩, h.apart, h.off⟩
theorem WO.below {w w' : World} {B : Nat} {v : Value} {U : List (Int × Value)} {ds : List DW} (h : WO w B v U ds) (hb : Below w.heap.size w w') : WO w' B v U ds := h.to (only_of_below hb (fun _ => False)) (fun _ _ h => h)
theorem WO.base {w : World} {B B' : Nat} {v : Value} {U : List (Int × Value)} {ds : List DW} (h : WO w B v U ds) (hB : B' ≤ B) : WO w B' v U ds :=
  ⟨h.len, ownD_base h.row hB, fun i hi => ⟨(h.own i hi).1, ownD_base (h.own i hi).2.1 hB, (h.own i hi).2.2⟩, h.apart, h.off⟩
theorem WO.lt {w : World} {B : Nat} {v : Value} {U : List (Int × Value)} {ds : List DW} (h : WO w B v U ds) {y : Nat} (hy : wbl v U y) : B ≤ y ∧ y < w.heap.size := by
  rcases hy with e | ⟨i, hi, e⟩
  · exact World.ownsRow.lt h.row y e
  · exact World.ownsRow.lt (h.own i (by rw [← h.len]; exact hi)).2.1 y e
theorem WO.wrr {w : World} {B : Nat} {v : Value} {U : List (Int × Value)} {ds : List DW} (h : WO w B v U ds) {S : Nat → Prop} (hS : ∀ y, wbl v U y → S y) : Wrr w S v ds :=
  ⟨U, h.len, rw_own h.row (fun k e _ _ => hS k (.inl e)), fun i hi => ⟨(h.own i hi).1, by_ob (h.own i hi).2.1 (h.own i hi).2.2 (fun k e _ _ => hS k (.inr ⟨i, by rw [h.len]; exact hi, e⟩))⟩⟩
theorem wo_nil (w : World) (B : Nat) : WO w B (.slice none 0 0) [] [] := ⟨rfl, World.ownsRow_nil _ _ _ _, fun i hi => by simp at hi, fun i j hi => by simp at hi, fun i hi => by simp at hi⟩
theorem xAt_left {U : List (Int × Value)} {p : Int × Value} {i : Nat} (h : i < U.length) : xAt (U ++ [p]) i = xAt U i := by simp [xAt, List.getElem?_append_left h]
theorem xAt_end (U : List (Int × Value)) (p : Int × Value) : xAt (U ++ [p]) U.length = p := by simp [xAt]
theorem wAt_left {U : List DW} {p : DW} {i : Nat} (h : i < U.length) : dwAt (U ++ [p]) i = dwAt U i := by simp [dwAt, List.getElem?_append_left h]
theorem wAt_end (U : List DW) (p : DW) : dwAt (U ++ [p]) U.length = p := by simp [dwAt]
theorem xAt_set {V : List (Int × Value)} {p : Int × Value} {i : Nat} (h : i < V.length) : xAt (V.set i p) i = p := by simp [xAt, h]
theorem xAt_other {V : List (Int × Value)} {p : Int × Value} {i j : Nat} (h : i ≠ j) : xAt (V.set j p) i = xAt V i := by simp [xAt, Ne.symm h]
theorem WO.push {u w2 : World} {B : Nat} {v v' : Value} {U : List (Int × Value)} {ds : List DW} (h : WO u B v U ds) (t : Int) (x : List Int) (p : Value) (hx : Ob u B p x) (hxb : byt x) (hd : ∀ y, p.ownBlock = some y → ¬ wbl v U y)
    (ho : w2.ownsRow B 99 2 v' (ds.length + 1) (wcs U ++ [.int .i64 t, p])) (hg : u.grownBy w2 v.ownBlock) (ha : v'.ownBlock = v.ownBlock ∨ v'.ownBlock = some u.heap.size) :
    WO w2 B v' (U ++ [(t, p)]) (ds ++ [(t, x)]) := by
  have o : Only (fun y => v.ownBlock = some y) u w2 := only_of_grown hg (fun k e => e)
  have hl := h.len
  have hat : ∀ i, i < (ds ++ [(t, x)]).length → (i < ds.length ∧ xAt (U ++ [(t, p)]) i = xAt U i ∧ dwAt (ds ++ [(t, x)]) i = dwAt ds i) ∨ (i = ds.length ∧ xAt (U ++ [(t, p)]) i = (t, p) ∧ dwAt (ds ++ [(t, x)]) i = (t, x)) := by
    intro i hi
    simp at hi
    by_cases e : i < ds.length
    · exact .inl ⟨e, xAt_left (by omega), wAt_left e⟩
    · obtain rfl : i = ds.length := by omega
      exact .inr ⟨rfl, by rw [← hl, xAt_end], wAt_end _ _⟩
  refine ⟨by simp [hl], by rw [List.length_append, wcs_append]; exact ho, fun i hi => ?_, fun i j hi hj hij y hy hz => ?_, fun i hi y hy hv => ?_⟩
  · rcases hat i hi with ⟨e, e1, e2⟩ | ⟨e, e1, e2⟩
    · rw [e1, e2]; exact ⟨(h.own i e).1, own_kept (h.own i e).2.1 o (h.off i e), (h.own i e).2.2⟩
    · rw [e1, e2]; exact ⟨rfl, own_kept hx o (fun y hy e => hd y hy (.inl e)), hxb⟩
  · rcases hat i hi with ⟨e, e1, _⟩ | ⟨e, e1, _⟩
    · rw [e1] at hy
      rcases hat j hj with ⟨d, d1, _⟩ | ⟨d, d1, _⟩
      · rw [d1] at hz; exact h.apart i j e d hij y hy hz
      · rw [d1] at hz; exact hd y hz (.inr ⟨i, by omega, hy⟩)
    · rw [e1] at hy
      rcases hat j hj with ⟨d, d1, _⟩ | ⟨d, d1, _⟩
      · rw [d1] at hz; exact hd y hy (.inr ⟨j, by omega, hz⟩)
      · omega
  · have : y < u.heap.size ∧ v.ownBlock ≠ some y := by
      rcases hat i hi with ⟨e, e1, _⟩ | ⟨e, e1, _⟩
      · rw [e1] at hy; exact ⟨(World.ownsRow.lt (h.own i e).2.1 y hy).2, h.off i e y hy⟩
      · rw [e1] at hy; exact ⟨(World.ownsRow.lt hx y hy).2, fun e => hd y hy (.inl e)⟩
    rcases ha with ha | ha
    · rw [ha] at hv; exact this.2 hv
    · rw [ha] at hv; cases hv; omega
structure DO (w : World) (B : Nat) (sv : Value) (V : List Value) (dv : Value) (U : List (Int × Value)) (d : DK) : Prop where
  hs : SOw w B sv V d.sh
  hd : WO w B dv U d.dw
  ap : ∀ y, sbl sv V y → ¬ wbl dv U y
def dbl (sv : Value) (V : List Value) (dv : Value) (U : List (Int × Value)) (y : Nat) : Prop := sbl sv V y ∨ wbl dv U y
theorem DO.to {w w' : World} {B : Nat} {R : Nat → Prop} {sv dv : Value} {V : List Value} {U : List (Int × Value)} {d : DK} (h : DO w B sv V dv U d) (ho : Only R w w') (hR : ∀ y, dbl sv V dv U y → ¬ R y) : DO w' B sv V dv U d := ⟨h.hs.to ho (fun y e => hR y (.inl e)), h.hd.to ho (fun y e => hR y (.inr e)), h.ap⟩
theorem DO.below {w w' : World} {B : Nat} {sv dv : Value} {V : List Value} {U : List (Int × Value)} {d : DK} (h : DO w B sv V dv U d) (hb : Below w.heap.size w w') : DO w' B sv V dv U d := ⟨h.hs.below hb, h.hd.below hb, h.ap⟩
theorem DO.base {w : World} {B B' : Nat} {sv dv : Value} {V : List Value} {U : List (Int × Value)} {d : DK} (h : DO w B sv V dv U d) (hB : B' ≤ B) : DO w B' sv V dv U d := ⟨h.hs.base hB, h.hd.base hB, h.ap⟩
theorem DO.lt {w : World} {B : Nat} {sv dv : Value} {V : List Value} {U : List (Int × Value)} {d : DK} (h : DO w B sv V dv U d) {y : Nat} (hy : dbl sv V dv U y) : B ≤ y ∧ y < w.heap.size := hy.elim h.hs.lt h.hd.lt
theorem DO.dk {w : World} {B : Nat} {sa da : Option Addr} {sn sc dn dc : Nat} {V : List Value} {U : List (Int × Value)} {d : DK} (h : DO w B (.slice sa sn sc) V (.slice da dn dc) U d) {S : Nat → Prop} (hS : ∀ y, dbl (.slice sa sn sc) V (.slice da dn dc) U y → S y) : Dk w S sa sn sc da dn dc d := ⟨h.hs.shr (fun y e => hS y (.inl e)), h.hd.wrr (fun y e => hS y (.inr e))⟩
theorem do_nil (w : World) (B : Nat) : DO w B (.slice none 0 0) [] (.slice none 0 0) [] ⟨[], []⟩ := ⟨so_nil w B, wo_nil w B, fun y hy => by
  rcases hy with e | ⟨i, hi, _⟩
  · cases e
  · simp at hi⟩
open Go.RowKit
set_option linter.unusedVariables false
theorem shtOk_iff (l : List Int) : shtOk l = true ↔ l.length = 0 ∨ l.length = 512 := by simp only [shtOk, Bool.or_eq_true, decide_eq_true_eq]
theorem wrtOk_iff (n : Nat) (p : DW) : wrtOk n p = true ↔ 0 ≤ p.1 ∧ p.1 < (n : Int) ∧ p.2.length = 512 := by simp only [wrtOk, Bool.and_eq_true, decide_eq_true_eq, and_assoc]
theorem dkOk_iff (d : DK) : dkOk d = true ↔ 2 ≤ d.sh.length ∧ d.sh.length ≤ 400 ∧ d.dw.length ≤ 500 ∧ (∀ i, i < d.sh.length → shtOk (shAt d.sh i) = true) ∧ ∀ i, i < d.dw.length → wrtOk d.sh.length (dwAt d.dw i) = true := by
  simp only [dkOk, Bool.and_eq_true, decide_eq_true_eq, and_assoc, allD_at (l := d.sh) (z := []), allD_at (l := d.dw) (z := ((0, []) : DW)), shAt, dwAt]
theorem dk_no {d : DK} (h : ¬ (2 ≤ d.sh.length ∧ d.sh.length ≤ 400 ∧ d.dw.length ≤ 500)) : dkOk d = false := by
  rw [Bool.eq_false_iff]
  intro e
  have := (dkOk_iff d).1 e
  exact h ⟨this.1, this.2.1, this.2.2.1⟩
theorem dk_no_sheet {d : DK} {i : Nat} (hi : i < d.sh.length) (h : ¬ shtOk (shAt d.sh i) = true) : dkOk d = false := by
  rw [Bool.eq_false_iff]
  intro e
  exact h (((dkOk_iff d).1 e).2.2.2.1 i hi)
theorem dk_no_write {d : DK} {i : Nat} (hi : i < d.dw.length) (h : ¬ wrtOk d.sh.length (dwAt d.dw i) = true) : dkOk d = false := by
  rw [Bool.eq_false_iff]
  intro e
  exact h (((dkOk_iff d).1 e).2.2.2.2 i hi)
set_option maxHeartbeats 4000000 in
theorem specDiskOk_any (S : Nat → Prop) (sa : Option Addr) (sn sc : Nat) (da : Option Addr) (dn dc : Nat) (d : DK) (w : World) (h : Dk w S sa sn sc da dn dc d) :
    Calls Tryz.prog 75 #[.agg #[.slice sa sn sc, .slice da dn dc]] w fun e w' => e = .returned (.bool (dkOk d)) ∧ Below w.heap.size w w' := by
  have HS := hid h.hs
  have HD := hid h.hd
  obtain ⟨ns, hsc, hsc'⟩ := h.hs.len
  obtain ⟨nd, hdc, hdc'⟩ := h.hd.len
  have HNS := hid ns
  have HND := hid nd
  have HB0 : Hid (Below w.heap.size w (w.alloc (.cells #[.slice sa sn sc, .slice da dn dc] 25))) := below_new (Below.refl _ _)
  have KP : Hid (Bk (w.alloc (.cells #[.slice sa sn sc, .slice da dn dc] 25)) w.heap.size 25 [.slice sa sn sc, .slice da dn dc]) := Bk.new w 25 [.slice sa sn sc, .slice da dn dc]
  clear h
  have c0 := KP.out.cell (j := 0) rfl
  have c1 := KP.out.cell (j := 1) rfl
  by_cases q1 : sn < 2
  · have q1' : (sn : Int) < 2 := by omega
    have HF := hid (dk_no (d := d) (by omega))
    clear ns nd
    go_enter Tryz.func75, Tryz.ntmps75
    go_wp2
    go_ret
    exact ⟨by rw [HF.out]; rfl, HB0.out⟩
  · have q1' : ¬ (sn : Int) < 2 := by omega
    by_cases q2 : 400 < sn
    · have q2' : (400 : Int) < (sn : Int) := by omega
      have HF := hid (dk_no (d := d) (by omega))
      clear ns nd
      go_enter Tryz.func75, Tryz.ntmps75
      go_wp2
      go_ret
      exact ⟨by rw [HF.out]; rfl, HB0.out⟩
    · have q2' : ¬ (400 : Int) < (sn : Int) := by omega
      by_cases q3 : 500 < dn
      · have q3' : (500 : Int) < (dn : Int) := by omega
        have HF := hid (dk_no (d := d) (by omega))
        clear ns nd
        go_enter Tryz.func75, Tryz.ntmps75
        go_wp2
        go_ret
        exact ⟨by rw [HF.out]; rfl, HB0.out⟩
      · have q3' : ¬ (500 : Int) < (dn : Int) := by omega
        have HQ : Hid (2 ≤ d.sh.length ∧ d.sh.length ≤ 400 ∧ d.dw.length ≤ 500) := ⟨by omega, by omega, by omega⟩
        clear ns nd
        go_enter Tryz.func75, Tryz.ntmps75
        go_wp2_with fail
        clear c0 c1
        go_loopw [26] (fun i wr => ∃ k : Nat, k ≤ sn ∧ i = .int .i64 k ∧ Hid (∀ i, i < k → shtOk (shAt d.sh i) = true) ∧ Hid (Bk wr w.heap.size 25 [.slice sa sn sc, .slice da dn dc]) ∧ Hid (Below w.heap.size w wr)) (fun i _ => sn - (intOf i).toNat)
        case atStart => exact ⟨0, Nat.zero_le _, rfl, fun i hi => absurd hi (Nat.not_lt_zero _), KP.out, HB0.out⟩
        case round =>
          obtain ⟨k, hk, rfl, HT, HK, HB⟩ := hrel
          clear KP HB0
          by_cases hlt : k < sn
          · have hlt' : (k : Int) < (sn : Int) := by omega
            obtain ⟨b, off, rfl, _, hbw, hcell⟩ := (HS.out.below HB.out).at (by omega)
            obtain ⟨ap, np, cp, m0, hp⟩ := hcell k hlt
            have l0 := hp.len.1
            have hkl : k < d.sh.length := by rw [← HNS.out]; exact hlt
            have HB1 : Hid (Below w.heap.size w (wr.alloc (.cells #[.slice ap np cp] 130))) := HB.out.alloc HB.out.size _
            have HK1 := hid (HK.out.alloc (.cells #[.slice ap np cp] 130))
            clear hcell hbw hp
            by_cases n0 : np = 0
            · have HT1 : Hid (∀ i, i < k + 1 → shtOk (shAt d.sh i) = true) := by
                intro i hi
                by_cases e : i = k
                · subst e; exact (shtOk_iff _).2 (by omega)
                · exact HT.out i (by omega)
              have n0' : ((np : Int) != 0) = false := by simp; omega
              subst n0
              clear l0 HT
              go_wp2
              go_roundw
              case rel => exact ⟨k + 1, by omega, by go_num, HT1.out, HK1.out, HB1.out⟩
              case measure => simp [intOf]; omega
            · have n0' : ((np : Int) != 0) = true := by simp; omega
              have n0'' : ¬ (np : Int) = 0 := by omega
              by_cases n5 : np = 512
              · have HT1 : Hid (∀ i, i < k + 1 → shtOk (shAt d.sh i) = true) := by
                  intro i hi
                  by_cases e : i = k
                  · subst e; exact (shtOk_iff _).2 (by omega)
                  · exact HT.out i (by omega)
                subst n5
                clear l0 HT
                go_wp2
                go_roundw
                case rel => exact ⟨k + 1, by omega, by go_num, HT1.out, HK1.out, HB1.out⟩
                case measure => simp [intOf]; omega
              · have n5' : ((np : Int) != 512) = true := by simp; omega
                have n5'' : ¬ (np : Int) = 512 := by omega
                have HF := hid (dk_no_sheet hkl (fun e => by have := (shtOk_iff _).1 e; omega))
                clear l0 hkl HT
                go_wp2
                go_ret
                exact ⟨by rw [HF.out]; rfl, HB1.out⟩
          · have hkn : k = sn := by omega
            have HT0 : Hid (∀ i, i < d.sh.length → shtOk (shAt d.sh i) = true) := by rw [← HNS.out, ← hkn]; exact HT.out
            clear HT hkn
            have c1 := HK.out.cell (j := 1) rfl
            go_wp2_with fail
            clear c1
            go_loopw [44] (fun i wr => ∃ k : Nat, k ≤ dn ∧ i = .int .i64 k ∧ Hid (∀ i, i < k → wrtOk d.sh.length (dwAt d.dw i) = true) ∧ Hid (Bk wr w.heap.size 25 [.slice sa sn sc, .slice da dn dc]) ∧ Hid (Below w.heap.size w wr)) (fun i _ => dn - (intOf i).toNat)
            case atStart => exact ⟨0, Nat.zero_le _, rfl, fun i hi => absurd hi (Nat.not_lt_zero _), HK.out, HB.out⟩
            case round =>
              clear HK HB
              obtain ⟨j, hj, rfl, HT, HK, HB⟩ := hrel
              by_cases hlt : j < dn
              · have hlt' : (j : Int) < (dn : Int) := by omega
                obtain ⟨b, off, rfl, _, hbw, hcell⟩ := (HD.out.below HB.out).at (by omega)
                obtain ⟨ap, np, cp, mt, m0, hp⟩ := hcell j hlt
                have l0 := hp.len.1
                have hkl : j < d.dw.length := by rw [← HND.out]; exact hlt
                generalize htt : (dwAt d.dw j).1 = tt at *
                have HB1 : Hid (Below w.heap.size w (wr.alloc (.cells #[.int .i64 tt, .slice ap np cp] 99))) := HB.out.alloc HB.out.size _
                have HK1 := hid (HK.out.alloc (.cells #[.int .i64 tt, .slice ap np cp] 99))
                have c0 := HK1.out.cell (j := 0) rfl
                have HX : Hid (wrtOk d.sh.length (dwAt d.dw j) = true ↔ 0 ≤ tt ∧ tt < (sn : Int) ∧ np = 512) := by
                  show _ ↔ _
                  rw [wrtOk_iff, htt, ← l0, HNS.out]
                clear hcell hbw hp htt l0
                by_cases t0 : tt < 0
                · have HF := hid (dk_no_write hkl (fun e => by have := HX.out.1 e; omega))
                  clear hkl HT HX
                  go_wp2
                  go_ret
                  exact ⟨by rw [HF.out]; rfl, HB1.out⟩
                · by_cases t1 : (sn : Int) ≤ tt
                  · have HF := hid (dk_no_write hkl (fun e => by have := HX.out.1 e; omega))
                    clear hkl HT HX
                    go_wp2
                    go_ret
                    exact ⟨by rw [HF.out]; rfl, HB1.out⟩
                  · by_cases n5 : np = 512
                    · have HT1 : Hid (∀ i, i < j + 1 → wrtOk d.sh.length (dwAt d.dw i) = true) := by
                        intro i hi
                        by_cases e : i = j
                        · subst e; exact HX.out.2 ⟨by omega, by omega, n5⟩
                        · exact HT.out i (by omega)
                      subst n5
                      clear HT HX hkl
                      go_wp2
                      go_roundw
                      case rel => exact ⟨j + 1, by omega, by go_num, HT1.out, HK1.out, HB1.out⟩
                      case measure => simp [intOf]; omega
                    · have n5' : ((np : Int) != 512) = true := by simp; omega
                      have n5'' : ¬ (np : Int) = 512 := by omega
                      have HF := hid (dk_no_write hkl (fun e => by have := HX.out.1 e; omega))
                      clear hkl HT HX
                      go_wp2
                      go_ret
                      exact ⟨by rw [HF.out]; rfl, HB1.out⟩
              · have hjn : j = dn := by omega
                have HF : Hid (dkOk d = true) := (dkOk_iff d).2 ⟨HQ.out.1, HQ.out.2.1, HQ.out.2.2, HT0.out, by rw [← HND.out, ← hjn]; exact HT.out⟩
                clear HT HT0 hjn
                go_wp2
                go_ret
                exact ⟨by rw [HF.out]; rfl, HB.out⟩
def szOk (n : Int) : Bool := decide (2 ≤ n) && decide (n ≤ 400)
set_option maxHeartbeats 1000000 in
theorem sizeOk_any (n : Int) (w : World) : Calls Tryz.prog 80 #[.int .i64 n] w fun e w' => e = .returned (.bool (szOk n)) ∧ w' = w := by
  by_cases q1 : n < 2
  · have HF : Hid (szOk n = false) := by show _ = _; rw [szOk, decide_eq_false (show ¬ 2 ≤ n by omega)]; rfl
    have q1' : ¬ 2 ≤ n := by omega
    go_enter Tryz.func80, Tryz.ntmps80
    go_wp2
    go_ret
    exact ⟨by rw [HF.out]; rfl, rfl⟩
  · have q1' : 2 ≤ n := by omega
    by_cases q2 : n ≤ 400
    · have HF : Hid (szOk n = true) := by show _ = _; rw [szOk, decide_eq_true q1', decide_eq_true q2]; rfl
      go_enter Tryz.func80, Tryz.ntmps80
      go_wp2
      go_ret
      exact ⟨by rw [HF.out]; rfl, rfl⟩
    · have HF : Hid (szOk n = false) := by show _ = _; rw [szOk, decide_eq_false q2]; simp
      go_enter Tryz.func80, Tryz.ntmps80
      go_wp2
      go_ret
      exact ⟨by rw [HF.out]; rfl, rfl⟩
set_option maxHeartbeats 1000000 in
theorem shtOk_any (a : Option Addr) (n c : Nat) (zs : List Int) (w : World) (h : n = zs.length) (hn : n ≤ 9223372036854775807) :
    Calls Tryz.prog 147 #[.slice a n c] w fun e w' => e = .returned (.bool (shtOk zs)) ∧ w' = w := by
  by_cases h0 : n = 0
  · have HV : Hid (shtOk zs = true) := (shtOk_iff zs).2 (by omega)
    subst h0
    clear h
    go_enter Tryz.func147, Tryz.ntmps147
    go_wp2
    go_ret
    exact ⟨by rw [HV.out]; rfl, rfl⟩
  · have h0' : ((n : Int) == 0) = false := by simp; omega
    have h0'' : ¬ (n : Int) = 0 := by omega
    by_cases h5 : n = 512
    · have HV : Hid (shtOk zs = true) := (shtOk_iff zs).2 (by omega)
      subst h5
      clear h
      go_enter Tryz.func147, Tryz.ntmps147
      go_wp2
      go_ret
      exact ⟨by rw [HV.out]; rfl, rfl⟩
    · have h5' : ((n : Int) == 512) = false := by simp; omega
      have h5'' : ¬ (n : Int) = 512 := by omega
      have HV : Hid (shtOk zs = false) := by
        show _ = false
        rw [Bool.eq_false_iff]
        intro e
        have := (shtOk_iff zs).1 e
        omega
      clear h
      go_enter Tryz.func147, Tryz.ntmps147
      go_wp2
      go_ret
      exact ⟨by rw [HV.out]; rfl, rfl⟩
set_option maxHeartbeats 1000000 in
theorem writeOk_any (t : Int) (a : Option Addr) (n c : Nat) (zs : List Int) (m : Nat) (w : World) (h : n = zs.length) (hn : n ≤ 9223372036854775807) :
    Calls Tryz.prog 148 #[.agg #[.int .i64 t, .slice a n c], .int .i64 (m : Int)] w fun e w' => e = .returned (.bool (wrtOk m (t, zs))) ∧ Below w.heap.size w w' := by
  have HB0 : Hid (Below w.heap.size w (w.alloc (.cells #[.int .i64 t, .slice a n c] 99))) := below_new (Below.refl _ _)
  have HN := hid h
  clear h
  by_cases q1 : t < 0
  · have q1' : ¬ 0 ≤ t := by omega
    have HV : Hid (wrtOk m (t, zs) = false) := by
      show _ = false
      rw [Bool.eq_false_iff]
      intro e
      exact q1' ((wrtOk_iff _ _).1 e).1
    go_enter Tryz.func148, Tryz.ntmps148
    go_wp2
    go_ret
    exact ⟨by rw [HV.out]; rfl, HB0.out⟩
  · have q1' : 0 ≤ t := by omega
    by_cases q2 : t < (m : Int)
    · by_cases h5 : n = 512
      · have HV : Hid (wrtOk m (t, zs) = true) := (wrtOk_iff _ _).2 ⟨q1', q2, by rw [← HN.out]; exact h5⟩
        subst h5
        go_enter Tryz.func148, Tryz.ntmps148
        go_wp2
        go_ret
        exact ⟨by rw [HV.out]; rfl, HB0.out⟩
      · have h5' : ((n : Int) == 512) = false := by simp; omega
        have h5'' : ¬ (n : Int) = 512 := by omega
        have HV : Hid (wrtOk m (t, zs) = false) := by
          show _ = false
          rw [Bool.eq_false_iff]
          intro e
          exact h5 (HN.out.trans ((wrtOk_iff _ _).1 e).2.2)
        go_enter Tryz.func148, Tryz.ntmps148
        go_wp2
        go_ret
        exact ⟨by rw [HV.out]; rfl, HB0.out⟩
    · have HV : Hid (wrtOk m (t, zs) = false) := by
        show _ = false
        rw [Bool.eq_false_iff]
        intro e
        exact q2 ((wrtOk_iff _ _).1 e).2.1
      go_enter Tryz.func148, Tryz.ntmps148
      go_wp2
      go_ret
      exact ⟨by rw [HV.out]; rfl, HB0.out⟩
set_option maxHeartbeats 4000000 in
theorem implDiskOk_any (S : Nat → Prop) (sa : Option Addr) (sn sc : Nat) (da : Option Addr) (dn dc : Nat) (d : DK) (w : World) (h : Dk w S sa sn sc da dn dc d) :
    Calls Tryz.prog 83 #[.agg #[.slice sa sn sc, .slice da dn dc]] w fun e w' => e = .returned (.bool (dkOk d)) ∧ Below w.heap.size w w' := by
  have HS := hid h.hs
  have HD := hid h.hd
  obtain ⟨ns, hsc, hsc'⟩ := h.hs.len
  obtain ⟨nd, hdc, hdc'⟩ := h.hd.len
  have HNS := hid ns
  have HND := hid nd
  have HB0 : Hid (Below w.heap.size w (w.alloc (.cells #[.slice sa sn sc, .slice da dn dc] 25))) := below_new (Below.refl _ _)
  have KP : Hid (Bk (w.alloc (.cells #[.slice sa sn sc, .slice da dn dc] 25)) w.heap.size 25 [.slice sa sn sc, .slice da dn dc]) := Bk.new w 25 [.slice sa sn sc, .slice da dn dc]
  clear h
  have c0 := KP.out.cell (j := 0) rfl
  have c1 := KP.out.cell (j := 1) rfl
  have HZ : Hid (szOk (sn : Int) = true ↔ 2 ≤ sn ∧ sn ≤ 400) := by
    show _ ↔ _
    simp only [szOk, Bool.and_eq_true, decide_eq_true_eq]
    omega
  clear ns nd
  go_enter Tryz.func83, Tryz.ntmps83
  go_wp2_with fail
  refine (sizeOk_any (sn : Int) _).mono ?_
  rintro e w0 ⟨rfl, rfl⟩
  cases hz : szOk (sn : Int) with
  | false =>
    have HF := hid (dk_no (d := d) (fun e => by have ns := HNS.out; have := HZ.out.2 (by omega); rw [hz] at this; cases this))
    clear hz HZ
    go_wp2
    go_ret
    exact ⟨by rw [HF.out]; rfl, HB0.out⟩
  | true =>
    have hz2 := HZ.out.1 hz
    by_cases q3 : 500 < dn
    · have q3' : (500 : Int) < (dn : Int) := by omega
      have HF := hid (dk_no (d := d) (by have nd := HND.out; omega))
      clear hz HZ hz2
      go_wp2
      go_ret
      exact ⟨by rw [HF.out]; rfl, HB0.out⟩
    · have q3' : ¬ (500 : Int) < (dn : Int) := by omega
      have HQ : Hid (2 ≤ d.sh.length ∧ d.sh.length ≤ 400 ∧ d.dw.length ≤ 500) := by have ns := HNS.out; have nd := HND.out; exact ⟨by omega, by omega, by omega⟩
      clear hz HZ hz2
      go_wp2_with fail
      clear c0 c1
      go_loopw [23] (fun i wr => ∃ k : Nat, k ≤ sn ∧ i = .int .i64 k ∧ Hid (∀ i, i < k → shtOk (shAt d.sh i) = true) ∧ Hid (Bk wr w.heap.size 25 [.slice sa sn sc, .slice da dn dc]) ∧ Hid (Below w.heap.size w wr)) (fun i _ => sn - (intOf i).toNat)
      case atStart => exact ⟨0, Nat.zero_le _, rfl, fun i hi => absurd hi (Nat.not_lt_zero _), KP.out, HB0.out⟩
      case round =>
        obtain ⟨k, hk, rfl, HT, HK, HB⟩ := hrel
        clear KP HB0
        by_cases hlt : k < sn
        · have hlt' : (k : Int) < (sn : Int) := by omega
          obtain ⟨b, off, rfl, _, hbw, hcell⟩ := (HS.out.below HB.out).at (by omega)
          obtain ⟨ap, np, cp, m0, hp⟩ := hcell k hlt
          have hkl : k < d.sh.length := by rw [← HNS.out]; exact hlt
          have HB1 : Hid (Below w.heap.size w (wr.alloc (.cells #[.slice ap np cp] 130))) := HB.out.alloc HB.out.size _
          have HK1 := hid (HK.out.alloc (.cells #[.slice ap np cp] 130))
          have HC := hid (shtOk_any ap np cp (shAt d.sh k) (wr.alloc (.cells #[.slice ap np cp] 130)) hp.len.1 (by have := hp.len.2; omega))
          have HT1 : Hid (shtOk (shAt d.sh k) = true → ∀ i, i < k + 1 → shtOk (shAt d.sh i) = true) := by
            intro hh i hi
            by_cases e : i = k
            · subst e; exact hh
            · exact HT.out i (by omega)
          have HF : Hid (shtOk (shAt d.sh k) = false → dkOk d = false) := fun e => dk_no_sheet hkl (by rw [e]; exact Bool.false_ne_true)
          clear hcell hbw hp hkl HT
          generalize shtOk (shAt d.sh k) = Z at *
          go_wp2_with fail
          refine HC.out.mono ?_
          rintro e w1 ⟨rfl, rfl⟩
          cases Z with
          | true =>
            have HT2 := hid (HT1.out rfl)
            clear HT1 HF
            go_wp2
            go_roundw
            case rel => exact ⟨k + 1, by omega, by go_num, HT2.out, HK1.out, HB1.out⟩
            case measure => simp [intOf]; omega
          | false =>
            have HF2 := hid (HF.out rfl)
            clear HT1 HF
            go_wp2
            go_ret
            exact ⟨by rw [HF2.out]; rfl, HB1.out⟩
        · have hkn : k = sn := by omega
          have HT0 : Hid (∀ i, i < d.sh.length → shtOk (shAt d.sh i) = true) := by rw [← HNS.out, ← hkn]; exact HT.out
          clear HT hkn
          have c1 := HK.out.cell (j := 1) rfl
          go_wp2_with fail
          clear c1
          go_loopw [35] (fun i wr => ∃ k : Nat, k ≤ dn ∧ i = .int .i64 k ∧ Hid (∀ i, i < k → wrtOk d.sh.length (dwAt d.dw i) = true) ∧ Hid (Below w.heap.size w wr)) (fun i _ => dn - (intOf i).toNat)
          case atStart => exact ⟨0, Nat.zero_le _, rfl, fun i hi => absurd hi (Nat.not_lt_zero _), HB.out⟩
          case round =>
            clear HK HB
            obtain ⟨j, hj, rfl, HT, HB⟩ := hrel
            by_cases hlt : j < dn
            · have hlt' : (j : Int) < (dn : Int) := by omega
              obtain ⟨b, off, rfl, _, hbw, hcell⟩ := (HD.out.below HB.out).at (by omega)
              obtain ⟨ap, np, cp, mt, m0, hp⟩ := hcell j hlt
              have hkl : j < d.dw.length := by rw [← HND.out]; exact hlt
              generalize htt : (dwAt d.dw j).1 = tt at *
              have HB1 : Hid (Below w.heap.size w (wr.alloc (.cells #[.int .i64 tt, .slice ap np cp] 99))) := HB.out.alloc HB.out.size _
              have HC := hid (writeOk_any tt ap np cp (dwAt d.dw j).2 sn (wr.alloc (.cells #[.int .i64 tt, .slice ap np cp] 99)) hp.len.1 (by have := hp.len.2; omega))
              have hpe : (tt, (dwAt d.dw j).2) = dwAt d.dw j := by rw [← htt]
              rw [hpe, HNS.out] at HC
              have HT1 : Hid (wrtOk d.sh.length (dwAt d.dw j) = true → ∀ i, i < j + 1 → wrtOk d.sh.length (dwAt d.dw i) = true) := by
                intro hh i hi
                by_cases e : i = j
                · subst e; exact hh
                · exact HT.out i (by omega)
              have HF : Hid (wrtOk d.sh.length (dwAt d.dw j) = false → dkOk d = false) := fun e => dk_no_write hkl (by rw [e]; exact Bool.false_ne_true)
              rw [← HNS.out] at HC
              clear hcell hbw hp htt hpe HT hkl
              rw [HNS.out] at HC
              generalize wrtOk d.sh.length (dwAt d.dw j) = Z at *
              rw [← HNS.out] at HC
              go_wp2_with fail
              refine HC.out.mono ?_
              rintro e w1 ⟨rfl, hb1⟩
              have HB2 := hid (HB1.out.trans (hb1.mono HB1.out.size))
              clear hb1
              cases Z with
              | true =>
                have HT2 := hid (HT1.out rfl)
                clear HT1 HF
                go_wp2
                go_roundw
                case rel => exact ⟨j + 1, by omega, by go_num, HT2.out, HB2.out⟩
                case measure => simp [intOf]; omega
              | false =>
                have HF2 := hid (HF.out rfl)
                clear HT1 HF
                go_wp2
                go_ret
                exact ⟨by rw [HF2.out]; rfl, HB2.out⟩
            · have hjn : j = dn := by omega
              have HF : Hid (dkOk d = true) := (dkOk_iff d).2 ⟨HQ.out.1, HQ.out.2.1, HQ.out.2.2, HT0.out, by rw [← HND.out, ← hjn]; exact HT.out⟩
              clear HT HT0 hjn
              go_wp2
              go_ret
              exact ⟨by rw [HF.out]; rfl, HB.out⟩
open Go.RowKit
theorem load_dsk {w : World} {g : Nat} {x y : Value} (c0 : w.cell? ⟨g, 0, none⟩ = some x) (c1 : w.cell? ⟨g, 1, none⟩ = some y) : (loadVar 25 ⟨g, 0, none⟩).run Tryz.prog w = .ok (.agg #[x, y]) w := by go_simp
theorem results_dsk {fn : Func} {p : Tmp} (h : fn.results = #[.cell p 25]) (tmps : Array Value) (w : World) (g : Nat) {x y : Value} (hp : tmps.getD p undef = .pointer (some ⟨g, 0, none⟩))
    (c0 : w.cell? ⟨g, 0, none⟩ = some x) (c1 : w.cell? ⟨g, 1, none⟩ = some y) : (results fn tmps).run Tryz.prog w = .ok (.agg #[x, y]) w := by
  have hp' : tmps[p]?.getD undef = .pointer (some ⟨g, 0, none⟩) := by simpa using hp
  simp [results, h, hp', asAddr, load_dsk c0 c1]
theorem infoSheetI : (Tryz.prog.info? 130).map (fun i => (i.zero, i.size, i.bytes)) = some (some (.agg #[.slice none 0 0]), 1, 24) := by kernel_rfl
theorem infoWriteI : (Tryz.prog.info? 99).map (fun i => (i.zero, i.size, i.bytes)) = some (some (.agg #[.int .i64 0, .slice none 0 0]), 2, 32) := by kernel_rfl
theorem made_sheets (n : Nat) : madeCells (Value.agg #[.slice none 0 0]).cells (n * 1) = (List.replicate n (Value.slice none 0 0)).toArray := by
  apply Array.ext
  · simp [madeCells]
  · intro i h1 h2; simp [madeCells, Value.cells, Nat.mod_one]
open Go.RowKit
set_option linter.unusedVariables false
structure SL (w : World) (B k : Nat) (V : List Value) (ss : List (List Int)) : Prop where
  own : ∀ i, i < k → Ob w B (uAt V i) (shAt ss i) ∧ byt (shAt ss i)
  apart : ∀ i j, i < k → j < k → i ≠ j → ∀ y, (uAt V i).ownBlock = some y → (uAt V j).ownBlock ≠ some y
theorem shAt_map (ds : List DW) (i : Nat) : shAt (ds.map Prod.snd) i = (dwAt ds i).2 := by
  simp only [shAt, dwAt, List.getElem?_map]
  cases ds[i]? <;> rfl
open Go.RowKit
set_option maxHeartbeats 2000000 in
theorem eqNode_any (S S' : Nat → Prop) (ap ax ai ap' ax' ai' : Option Addr) (np cp nx cx ni ci np' cp' nx' cx' ni' ci' : Nat) (x y : NB) (w : World)
    (hP : Pr w S (.slice ap np cp) x.ps) (hS : Sr w S (.slice ax nx cx) x.keys) (hI : Ir w S (.slice ai ni ci) x.kids) (hP' : Pr w S' (.slice ap' np' cp') y.ps) (hS' : Sr w S' (.slice ax' nx' cx') y.keys) (hI' : Ir w S' (.slice ai' ni' ci') y.kids) :
    Calls Tryz.prog 124 #[.agg #[.slice ap np cp, .slice ax nx cx, .slice ai ni ci], .agg #[.slice ap' np' cp', .slice ax' nx' cx', .slice ai' ni' ci']] w fun e w' => e = .returned (.bool (decide (x = y))) ∧ Below w.heap.size w w' := by
  have HP := hid hP
  have HS := hid hS
  have HI := hid hI
  have HP' := hid hP'
  have HS' := hid hS'
  have HI' := hid hI'
  clear hP hS hI hP' hS' hI'
  have HB0 : Hid (Below w.heap.size w ((w.alloc (.cells #[.slice ap np cp, .slice ax nx cx, .slice ai ni ci] 97)).alloc (.cells #[.slice ap' np' cp', .slice ax' nx' cx', .slice ai' ni' ci'] 97))) := below_new (below_new (Below.refl _ _))
  have KA : Hid (Bk ((w.alloc (.cells #[.slice ap np cp, .slice ax nx cx, .slice ai ni ci] 97)).alloc (.cells #[.slice ap' np' cp', .slice ax' nx' cx', .slice ai' ni' ci'] 97)) w.heap.size 97 [.slice ap np cp, .slice ax nx cx, .slice ai ni ci]) := (Bk.new w 97 [.slice ap np cp, .slice ax nx cx, .slice ai ni ci]).alloc _
  have KB : Hid (Bk ((w.alloc (.cells #[.slice ap np cp, .slice ax nx cx, .slice ai ni ci] 97)).alloc (.cells #[.slice ap' np' cp', .slice ax' nx' cx', .slice ai' ni' ci'] 97)) (w.heap.size + 1) 97 [.slice ap' np' cp', .slice ax' nx' cx', .slice ai' ni' ci']) := by
    have := Bk.new (w.alloc (.cells #[.slice ap np cp, .slice ax nx cx, .slice ai ni ci] 97)) 97 [.slice ap' np' cp', .slice ax' nx' cx', .slice ai' ni' ci']
    show Bk _ _ _ _
    simpa using this
  go_enter Tryz.func124, Tryz.ntmps124
  go_wp2_with fail
  refine (eqPairS_at S S' ap ap' np np' cp cp' x.ps y.ps _ (HP.out.below HB0.out) (HP'.out.below HB0.out)).mono ?_
  generalize (w.alloc (.cells #[.slice ap np cp, .slice ax nx cx, .slice ai ni ci] 97)).alloc (.cells #[.slice ap' np' cp', .slice ax' nx' cx', .slice ai' ni' ci'] 97) = W at *
  rintro e w1 ⟨rfl, hb1⟩
  have HB1 := hid (HB0.out.trans (hb1.mono HB0.out.size))
  have KA1 := hid (KA.out.below hb1)
  have KB1 := hid (KB.out.below hb1)
  clear hb1 HB0 KA KB
  by_cases h1 : x.ps = y.ps
  · rw [decide_eq_true h1]
    have HH1 := hid h1
    clear h1
    have c0 := KA1.out.cell (j := 1) rfl
    have d0 := KB1.out.cell (j := 1) rfl
    go_wp2_with fail
    refine (eqStringS_at S S' ax ax' nx nx' cx cx' x.keys y.keys _ (HS.out.below HB1.out) (HS'.out.below HB1.out)).mono ?_
    rintro e w2 ⟨rfl, hb2⟩
    have HB2 := hid (HB1.out.trans (hb2.mono HB1.out.size))
    have KA2 := hid (KA1.out.below hb2)
    have KB2 := hid (KB1.out.below hb2)
    clear hb2 HB1 KA1 KB1 c0 d0
    by_cases h2 : x.keys = y.keys
    · rw [decide_eq_true h2]
      have HH2 := hid h2
      clear h2
      have c0 := KA2.out.cell (j := 2) rfl
      have d0 := KB2.out.cell (j := 2) rfl
      go_wp2_with fail
      refine (eqIntS_at S S' ai ai' ni ni' ci ci' x.kids y.kids _ (HI.out.below HB2.out) (HI'.out.below HB2.out)).mono ?_
      rintro e w3 ⟨rfl, hb3⟩
      have HB3 := hid (HB2.out.trans (hb3.mono HB2.out.size))
      clear hb3 HB2 KA2 KB2 c0 d0
      by_cases h3 : x.kids = y.kids
      · rw [decide_eq_true h3]
        have HF : Hid (decide (x = y) = true) := by
          show _ = _
          rw [decide_eq_true_eq]
          have e1 := HH1.out
          have e2 := HH2.out
          cases x; cases y; simp_all
        clear h3
        go_wp2
        go_ret
        exact ⟨by rw [HF.out]; rfl, HB3.out⟩
      · rw [decide_eq_false h3]
        have HF : Hid (decide (x = y) = false) := by
          show _ = _
          rw [decide_eq_false_iff_not]
          rintro rfl
          exact h3 rfl
        clear h3
        go_wp2
        go_ret
        exact ⟨by rw [HF.out]; rfl, HB3.out⟩
    · rw [decide_eq_false h2]
      have HF : Hid (decide (x = y) = false) := by
        show _ = _
        rw [decide_eq_false_iff_not]
        rintro rfl
        exact h2 rfl
      clear h2
      go_wp2
      go_ret
      exact ⟨by rw [HF.out]; rfl, HB2.out⟩
  · rw [decide_eq_false h1]
    have HF : Hid (decide (x = y) = false) := by
      show _ = _
      rw [decide_eq_false_iff_not]
      rintro rfl
      exact h1 rfl
    clear h1
    go_wp2
    go_ret
    exact ⟨by rw [HF.out]; rfl, HB1.out⟩
set_option maxHeartbeats 4000000 in
theorem eqNodeS_at (S S' : Nat → Prop) (a a' : Option Addr) (n n' c c' : Nat) (l l' : List NB) (w : World) (h : Nr w S (.slice a n c) l) (h' : Nr w S' (.slice a' n' c') l') :
    Calls Tryz.prog 60 #[.slice a n c, .slice a' n' c'] w fun e w' => e = .returned (.bool (decide (l = l'))) ∧ Below w.heap.size w w' := by
  obtain ⟨hn, hnc, hcc⟩ := h.len
  obtain ⟨hn', hnc', hcc'⟩ := h'.len
  have HN := hid hn
  have HN' := hid hn'
  have H0 := hid h
  have H0' := hid h'
  clear h h' hn hn'
  by_cases hne : n = n'
  · subst hne
    have hz : ((n : Int) != (n : Int)) = false := by simp
    go_enter Tryz.func60, Tryz.ntmps60
    go_wp2
    go_loopw [5] (fun i wr => ∃ k : Nat, k ≤ n ∧ i = .int .i64 k ∧ Hid (Below w.heap.size w wr) ∧ Hid (l.take k = l'.take k)) (fun i _ => n - (intOf i).toNat)
    case atStart => exact ⟨0, Nat.zero_le _, rfl, Below.refl _ _, rfl⟩
    case round =>
      obtain ⟨k, hk, rfl, HB, HT⟩ := hrel
      by_cases hlt : k < n
      · have hlt' : (k : Int) < (n : Int) := by omega
        have HP := hid (H0.out.below HB.out)
        have HP' := hid (H0'.out.below HB.out)
        obtain ⟨b, off, rfl, _, hbw, hcell⟩ := HP.out.at (by omega)
        obtain ⟨b', off', rfl, _, hbw', hcell'⟩ := HP'.out.at (by omega)
        obtain ⟨ap, np, cp, ax, nx, cx, ai, ni, ci, c0, c1, c2, hp, hx, hi⟩ := hcell k hlt
        obtain ⟨ap', np', cp', ax', nx', cx', ai', ni', ci', d0, d1, d2, hp', hx', hi'⟩ := hcell' k hlt
        have HC : Hid (∀ v, Below wr.heap.size wr v → Calls Tryz.prog 124 #[.agg #[.slice ap np cp, .slice ax nx cx, .slice ai ni ci], .agg #[.slice ap' np' cp', .slice ax' nx' cx', .slice ai' ni' ci']] v fun e w' => e = .returned (.bool (decide (nAt l k = nAt l' k))) ∧ Below v.heap.size v w') := fun v hv =>
          eqNode_any S S' ap ax ai ap' ax' ai' np cp nx cx ni ci np' cp' nx' cx' ni' ci' (nAt l k) (nAt l' k) v (hp.below hv) (hx.below hv) (hi.below hv) (hp'.below hv) (hx'.below hv) (hi'.below hv)
        have HS : Hid (nAt l k = nAt l' k → l.take (k + 1) = l'.take (k + 1)) := by
          intro e
          have hl : k < l.length := by rw [← HN.out]; exact hlt
          have hl' : k < l'.length := by rw [← HN'.out]; exact hlt
          rw [List.take_succ_eq_append_getElem hl, List.take_succ_eq_append_getElem hl', HT.out]
          simp [nAt, hl, hl'] at e
          rw [e]
        have HF : Hid (nAt l k ≠ nAt l' k → decide (l = l') = false) := by
          intro e
          rw [decide_eq_false_iff_not]
          intro e'
          exact e (by rw [e'])
        have T0 := hid (kc0_6 c0 c1 c2 d0 d1 d2)
        clear hcell hcell' hbw hbw' HP HP' HT hp hx hi hp' hx' hi' c0 c1 c2 d0 d1 d2
        generalize nAt l k = cx1 at *
        generalize nAt l' k = cx2 at *
        by_cases he : cx1 = cx2
        · have HS1 := hid (HS.out he)
          rw [decide_eq_true he] at HC
          clear he HS HF
          go_wp2_with fail
          go_region_held3 (fun v => v.cell? ⟨b, off + k * 3, none⟩ = some (.slice ap np cp) ∧ v.cell? ⟨b, off + k * 3 + 1, none⟩ = some (.slice ax nx cx) ∧ v.cell? ⟨b, off + k * 3 + 2, none⟩ = some (.slice ai ni ci) ∧ v.cell? ⟨b', off' + k * 3, none⟩ = some (.slice ap' np' cp') ∧ v.cell? ⟨b', off' + k * 3 + 1, none⟩ = some (.slice ax' nx' cx') ∧ v.cell? ⟨b', off' + k * 3 + 2, none⟩ = some (.slice ai' ni' ci') ∧ KC wr v [(⟨b, off + k * 3, none⟩, .slice ap np cp), (⟨b, off + k * 3 + 1, none⟩, .slice ax nx cx), (⟨b, off + k * 3 + 2, none⟩, .slice ai ni ci), (⟨b', off' + k * 3, none⟩, .slice ap' np' cp'), (⟨b', off' + k * 3 + 1, none⟩, .slice ax' nx' cx'), (⟨b', off' + k * 3 + 2, none⟩, .slice ai' ni' ci')])
            (first | assumption | exact kc6 (T0.out.call (below_drew _)) | exact kc6c hbC (by assumption))
            (first | (go_at_call 124; refine (HC.out _ (KC.bel (by first | exact (by assumption : _ ∧ _ ∧ _ ∧ _ ∧ _ ∧ _ ∧ _).2.2.2.2.2.2))).mono ?_; rintro e w' ⟨rfl, hbC⟩))
          all_goals (rename_i hS; have HB1 := hid (Below.then' HB.out hS.2.2.2.2.2.2.bel (Nat.le_refl _)); clear hS; go_wp2)
          go_roundw
          case rel => exact ⟨k + 1, by omega, by go_num, HB1.out, HS1.out⟩
          case measure => simp [intOf]; omega
        · have HF1 := hid (HF.out he)
          rw [decide_eq_false he] at HC
          clear he HS HF
          go_wp2_with fail
          go_region_held3 (fun v => v.cell? ⟨b, off + k * 3, none⟩ = some (.slice ap np cp) ∧ v.cell? ⟨b, off + k * 3 + 1, none⟩ = some (.slice ax nx cx) ∧ v.cell? ⟨b, off + k * 3 + 2, none⟩ = some (.slice ai ni ci) ∧ v.cell? ⟨b', off' + k * 3, none⟩ = some (.slice ap' np' cp') ∧ v.cell? ⟨b', off' + k * 3 + 1, none⟩ = some (.slice ax' nx' cx') ∧ v.cell? ⟨b', off' + k * 3 + 2, none⟩ = some (.slice ai' ni' ci') ∧ KC wr v [(⟨b, off + k * 3, none⟩, .slice ap np cp), (⟨b, off + k * 3 + 1, none⟩, .slice ax nx cx), (⟨b, off + k * 3 + 2, none⟩, .slice ai ni ci), (⟨b', off' + k * 3, none⟩, .slice ap' np' cp'), (⟨b', off' + k * 3 + 1, none⟩, .slice ax' nx' cx'), (⟨b', off' + k * 3 + 2, none⟩, .slice ai' ni' ci')])
            (first | assumption | exact kc6 (T0.out.call (below_drew _)) | exact kc6c hbC (by assumption))
            (first | (go_at_call 124; refine (HC.out _ (KC.bel (by first | exact (by assumption : _ ∧ _ ∧ _ ∧ _ ∧ _ ∧ _ ∧ _).2.2.2.2.2.2))).mono ?_; rintro e w' ⟨rfl, hbC⟩))
          all_goals (rename_i hS; have HB1 := hid (Below.then' HB.out hS.2.2.2.2.2.2.bel (Nat.le_refl _)); clear hS; go_wp2)
          go_ret
          exact ⟨by rw [HF1.out]; rfl, HB1.out⟩
      · have HF : Hid (decide (l = l') = true) := by
          show decide (l = l') = true
          have hk' : k = n := by omega
          have e := HT.out
          have e1 : l.length ≤ k := by rw [← HN.out]; omega
          have e2 : l'.length ≤ k := by rw [← HN'.out]; omega
          rw [List.take_of_length_le e1, List.take_of_length_le e2] at e
          simp [e]
        clear HT
        go_wp2
        go_ret
        exact ⟨by rw [HF.out]; rfl, HB.out⟩
  · have hz : ((n : Int) != (n' : Int)) = true := by simp; omega
    have HF : Hid (decide (l = l') = false) := by
      show decide (l = l') = false
      rw [decide_eq_false_iff_not]
      intro e
      exact hne (by rw [HN.out, HN'.out, e])
    clear hne
    go_enter Tryz.func60, Tryz.ntmps60
    go_wp2
    go_ret
    exact ⟨by rw [HF.out]; rfl, Below.refl _ _⟩
set_option maxHeartbeats 2000000 in
theorem eqTree_at (S S' : Nat → Prop) (a a' : Option Addr) (n n' c c' : Nat) (l l' : List NB) (w : World) (h : Nr w S (.slice a n c) l) (h' : Nr w S' (.slice a' n' c') l') :
    Calls Tryz.prog 19 #[.agg #[.slice a n c], .agg #[.slice a' n' c']] w fun e w' => e = .returned (.bool (decide (l = l'))) ∧ Below w.heap.size w w' := by
  have H0 := hid h
  have H0' := hid h'
  clear h h'
  have HB0 : Hid (Below w.heap.size w ((w.alloc (.cells #[.slice a n c] 28)).alloc (.cells #[.slice a' n' c'] 28))) := below_new (below_new (Below.refl _ _))
  go_enter Tryz.func19, Tryz.ntmps19
  go_wp2_with fail
  refine (eqNodeS_at S S' a a' n n' c c' l l' _ (H0.out.below HB0.out) (H0'.out.below HB0.out)).mono ?_
  rintro e w1 ⟨rfl, hb1⟩
  have HB1 := hid (HB0.out.trans (hb1.mono HB0.out.size))
  clear hb1 HB0
  by_cases he : l = l'
  · have HE := hid (decide_eq_true he)
    rw [decide_eq_true he]
    clear he
    go_wp2
    go_ret
    exact ⟨by rw [HE.out]; rfl, HB1.out⟩
  · have HE := hid (decide_eq_false he)
    rw [decide_eq_false he]
    clear he
    go_wp2
    go_ret
    exact ⟨by rw [HE.out]; rfl, HB1.out⟩
end Go.Proofs.YtmilnejacnaejaaGreatDoor
