/-
  The law's helpers that write marks into a tree: nothing but its own rows turns.
-/
import Derived.Test.YtjplocdjbfpcgabMd4
import Derived.Test.YtjplocdjbfpcgabMd1
import Derived.Test.YtjplocdjbfpcgabMd3
import Derived.Deep.SlicePairs
import Derived.WideShapes
import Derived.ChangeSame
import Derived.ProofKit
import Derived.OpenShut
import Derived.Deep.Strs
import Derived.Deep.Slices
import Derived.ChangeSlices
namespace Go.Proofs.Ytjplocdjbfpcgab
open Go.RowKit
set_option linter.unusedVariables false
/-- The slice value v leads to n nodes whose cells are V's and stay; the rows behind them may be written. -/
def Nk (w : World) (S : Nat → Prop) (v : Value) (n : Nat) (V : Nat → V3) : Prop :=
  (∀ i, i < n → ∃ np nx ni, np ≤ 1048576 ∧ nx ≤ 1048576 ∧ ni ≤ 1048576 ∧ Kw w S (V i).1 np (np * 2) isStr ∧ Kw w S (V i).2.1 nx nx isStr ∧ Kw w S (V i).2.2 ni ni isInt) ∧
    ∃ a c, v = .slice a n c ∧ n ≤ c ∧ c ≤ 9223372036854775807 ∧ (0 < n → ∃ b off, a = some ⟨b, off, none⟩ ∧ Uf w b ∧ ∀ i, i < n → w.cell? ⟨b, off + i * 3, none⟩ = some (V i).1 ∧ w.cell? ⟨b, off + i * 3 + 1, none⟩ = some (V i).2.1 ∧ w.cell? ⟨b, off + i * 3 + 2, none⟩ = some (V i).2.2)
theorem Kw.slice {w : World} {S : Nat → Prop} {v : Value} {n m : Nat} {K : Value → Prop} (h : Kw w S v n m K) : ∃ a n c, v = .slice a n c := by
  obtain ⟨a, c, h, _⟩ := h
  exact ⟨a, n, c, h⟩
theorem Mk.slice {S : Nat → Prop} {w w' : World} (hm : Mk S w w') {b o n c : Nat} {a : Option Addr} (hu : Uf w b) (hc : w.cell? ⟨b, o, none⟩ = some (.slice a n c)) : w'.cell? ⟨b, o, none⟩ = some (.slice a n c) := by
  obtain ⟨u, d, e⟩ := hm.cell hu hc
  rw [d, kind_slice _ ⟨a, n, c, rfl⟩ _ _ rfl e]
theorem pcs_str (ps : List PB) : ∀ u ∈ pcs ps, isStr u := by
  induction ps with
  | nil => intro u hu; cases hu
  | cons p ps ih =>
    intro u hu
    simp only [pcs, List.mem_cons] at hu
    rcases hu with rfl | rfl | hu
    · exact ⟨_, rfl⟩
    · exact ⟨_, rfl⟩
    · exact ih u hu
theorem Nk.mk {S S' : Nat → Prop} {w w' : World} {v : Value} {n : Nat} {V : Nat → V3} (h : Nk w S v n V) (hm : Mk S' w w') : Nk w' S v n V := by
  obtain ⟨h0, a, c, h1, h2, h3, h4⟩ := h
  refine ⟨fun i hi => ?_, a, c, h1, h2, h3, fun hn => ?_⟩
  · obtain ⟨np, nx, ni, b1, b2, b3, k1, k2, k3⟩ := h0 i hi
    exact ⟨np, nx, ni, b1, b2, b3, k1.mk hm kind_str, k2.mk hm kind_str, k3.mk hm kind_int⟩
  · obtain ⟨b, off, h5, h7, h8⟩ := h4 hn
    refine ⟨b, off, h5, hm.uf h7, fun i hi => ?_⟩
    obtain ⟨np, nx, ni, b1, b2, b3, k1, k2, k3⟩ := h0 i hi
    obtain ⟨c0, c1, c2⟩ := h8 i hi
    obtain ⟨u0, d0, e0⟩ := hm.cell h7 c0
    obtain ⟨u1, d1, e1⟩ := hm.cell h7 c1
    obtain ⟨u2, d2, e2⟩ := hm.cell h7 c2
    rw [d0, d1, d2, kind_slice _ k1.slice _ _ rfl e0, kind_slice _ k2.slice _ _ rfl e1, kind_slice _ k3.slice _ _ rfl e2]
    exact ⟨rfl, rfl, rfl⟩
theorem Nk.below {S : Nat → Prop} {w w' : World} {v : Value} {n : Nat} {V : Nat → V3} (h : Nk w S v n V) (hb : Below w.heap.size w w') : Nk w' S v n V := h.mk (mk_below (S := fun _ => False) hb)
theorem nk_of {w : World} {S S' : Nat → Prop} {v : Value} {ns : List NB} (h : Nr w S v ns) (hs : smallN ns) (hS : ∀ b, S b → b < w.heap.size → S' b ∧ Uf w b) : ∃ V, Nk w S' v ns.length V := by
  obtain ⟨V, h1, h2, h3⟩ := h
  refine ⟨vAt V, fun i hi => ?_, ?_⟩
  · obtain ⟨k1, k2, k3⟩ := h3 i hi
    have hb := hs i hi
    refine ⟨_, _, _, hb.1, hb.2.1, hb.2.2, ?_, ?_, ?_⟩
    · have := kw_of (K := isStr) k1 (fun u hu => pcs_str _ u hu) hS
      rwa [pcs_length] at this
    · have := kw_of (K := isStr) k2 (fun u hu => by simp at hu; obtain ⟨s, _, rfl⟩ := hu; exact ⟨s, rfl⟩) hS
      rwa [List.length_map] at this
    · have := kw_of (K := isInt) k3 (fun u hu => by simp at hu; obtain ⟨s, _, rfl⟩ := hu; exact ⟨s, rfl⟩) hS
      rwa [List.length_map] at this
  · obtain ⟨a, c, e1, e2, e3, e4, en, e5⟩ := h2
    refine ⟨a, c, e1, e2, e3, fun hp => ?_⟩
    obtain ⟨b, off, e6, e7, e8, e9⟩ := e5 hp
    refine ⟨b, off, e6, (hS b e8 e7).2, fun i hi => ?_⟩
    obtain ⟨c0, c1, c2⟩ := ncs_at V i (by omega)
    exact ⟨e9 _ _ c0, e9 _ _ c1, e9 _ _ c2⟩
def NkPost (S : Nat → Prop) (w : World) (k n : Nat) (e : Ending) (w' : World) : Prop := ∃ k' : Nat, e = .returned (.int .i64 (k' : Int)) ∧ k ≤ k' ∧ k' ≤ k + n * 4194304 ∧ Mk S w w'
set_option maxHeartbeats 4000000 in
theorem markNodeS_any (S : Nat → Prop) (a : Option Addr) (n c k : Nat) (V : Nat → V3) (w : World) (h : Nk w S (.slice a n c) n V) (hn : n ≤ 1048576) (hk0 : 0 < k) (hk : k ≤ 1125899906842624) :
    Calls Try.prog 44 #[.slice a n c, .int .i64 k] w fun e w' => NkPost S w k n e w' := by
  have H0 := hid h
  obtain ⟨_, _, _, hsh, h2, h3, _⟩ := h
  cases hsh
  go_enter Try.func44, Try.ntmps44
  go_wp2_with fail
  go_loopw [1, 5] (fun x i wr => ∃ j q : Nat, x = .int .i64 (q : Int) ∧ i = .int .i64 j ∧ j ≤ n ∧ Hid (k ≤ q ∧ q ≤ k + j * 4194304) ∧ Hid (Nk wr S (.slice a n c) n V) ∧ Hid (Mk S w wr)) (fun _ i _ => n - (intOf i).toNat)
  case atStart => exact ⟨0, k, rfl, rfl, Nat.zero_le _, ⟨Nat.le_refl _, Nat.le_add_right _ _⟩, H0.out, Mk.refl _ _⟩
  case round =>
    obtain ⟨j, q, rfl, rfl, hj, HQ, HX, HG⟩ := hrel
    by_cases hlt : j < n
    · have hlt' : (j : Int) < (n : Int) := by omega
      have hj0 : (0 : Int) ≤ (j : Int) := by omega
      have hq1 : 0 < q := by have := HQ.out; omega
      have hq2 : q ≤ 5629499534213120 := by have := HQ.out; omega
      obtain ⟨hk', a', c', hsh, _, _, hcs⟩ := HX.out
      cases hsh
      obtain ⟨b, off, hab, huf, hcell⟩ := hcs (by omega)
      subst hab
      obtain ⟨np, nx, ni, b1, b2, b3, k1, k2, k3⟩ := hk' j hlt
      obtain ⟨c0, c1, c2⟩ := hcell j hlt
      generalize V j = vj at *
      obtain ⟨v0, v1, v2⟩ := vj
      obtain ⟨ap, np', cp, e0⟩ := k1.slice
      obtain ⟨ax, nx', cx, e1⟩ := k2.slice
      obtain ⟨ai, ni', ci, e2⟩ := k3.slice
      simp only at e0 e1 e2 k1 k2 k3 c0 c1 c2
      subst e0 e1 e2
      obtain rfl : np' = np := by obtain ⟨_, _, e, _⟩ := k1; cases e; rfl
      obtain rfl : nx' = nx := by obtain ⟨_, _, e, _⟩ := k2; cases e; rfl
      obtain rfl : ni' = ni := by obtain ⟨_, _, e, _⟩ := k3; cases e; rfl
      have K1 := hid k1
      have K2 := hid k2
      have K3 := hid k3
      have HU := hid huf
      have C1 := hid c1
      have C2 := hid c2
      clear hcs hcell hk' k1 k2 k3 huf c1 c2
      go_wp2_with fail
      refine (markPairS_any S ap np' cp q wr K1.out b1 hq1 (by omega)).mono ?_
      rintro e w1 ⟨rfl, hm, _⟩
      have HM1 := hid hm
      clear hm c0
      have c1 := HM1.out.slice HU.out C1.out
      have hs1 : q + np' * 2 ≤ 5629499536310272 := by omega
      have HQ1 : Hid (k ≤ q + np' * 2 ∧ q + np' * 2 ≤ k + j * 4194304 + 2097152) := by have := HQ.out; exact ⟨by omega, by omega⟩
      have hs0 : 0 < q + np' * 2 := by omega
      generalize q + np' * 2 = q1 at *
      go_wp2_with fail
      refine (markStringS_any S ax nx' cx q1 w1 (K2.out.mk HM1.out kind_str) b2 hs0 (by omega)).mono ?_
      rintro e w2 ⟨rfl, hm, _⟩
      have HM2 := hid (HM1.out.trans hm)
      clear hm c1
      have c2 := HM2.out.slice HU.out C2.out
      have hs2 : q1 + nx' ≤ 5629499537358848 := by omega
      have HQ2 : Hid (k ≤ q1 + nx' ∧ q1 + nx' ≤ k + j * 4194304 + 3145728) := by have := HQ1.out; exact ⟨by omega, by omega⟩
      have hs3 : 0 < q1 + nx' := by omega
      generalize q1 + nx' = q2 at *
      go_wp2_with fail
      refine (markIntS_any S ai ni' ci q2 w2 (K3.out.mk HM2.out kind_int) b3 hs3 (by omega)).mono ?_
      rintro e w3 ⟨rfl, hm, _⟩
      have HM3 := hid (HM2.out.trans hm)
      clear hm c2
      have HQ3 : Hid (k ≤ q2 + ni' ∧ q2 + ni' ≤ k + (j + 1) * 4194304) := by have := HQ2.out; exact ⟨by omega, by omega⟩
      generalize q2 + ni' = q3 at *
      go_wp2
      go_roundw
      case rel => exact ⟨j + 1, q3, rfl, by go_num, by omega, HQ3.out, HX.out.mk HM3.out, HG.out.trans HM3.out⟩
      case measure => simp [intOf]; omega
    · have hlt' : ¬ (j : Int) < (n : Int) := by omega
      have hjn : j = n := by omega
      subst hjn
      go_wp2
      go_ret
      exact ⟨q, rfl, HQ.out.1, HQ.out.2, HG.out⟩
set_option maxHeartbeats 2000000 in
theorem markTree_any (S : Nat → Prop) (a : Option Addr) (n c k : Nat) (V : Nat → V3) (w : World) (h : Nk w S (.slice a n c) n V) (hn : n ≤ 1048576) (hk0 : 0 < k) (hk : k ≤ 1125899906842624) :
    Calls Try.prog 17 #[.agg #[.slice a n c], .int .i64 k] w fun e w' => NkPost S w k n e w' := by
  have HB0 : Hid (Below w.heap.size w (w.alloc (.cells #[.slice a n c] 29))) := below_new (Below.refl _ _)
  have H0 := hid (h.below HB0.out)
  clear h
  go_enter Try.func17, Try.ntmps17
  go_wp2_with fail
  refine (markNodeS_any S a n c k V _ H0.out hn hk0 hk).mono ?_
  generalize w.alloc (.cells #[.slice a n c] 29) = U at *
  rintro e w1 ⟨k', rfl, h1, h2, h3⟩
  have HM := hid ((mk_below HB0.out).trans h3)
  have HK := hid (And.intro h1 h2)
  clear h1 h2 h3
  go_wp2
  go_ret
  exact ⟨k', rfl, HK.out.1, HK.out.2, HM.out⟩
end Go.Proofs.Ytjplocdjbfpcgab
/-
  The law's helper that looks for marks in a slice of pairs: it finds them all.
-/
namespace Go.Proofs.Ytjplocdjbfpcgab
open Go.RowKit
theorem kc1 {u v : World} {a0 : Addr} {x0 : Value} (h : KC u v [(a0, x0)]) : v.cell? a0 = some x0 ∧ KC u v [(a0, x0)] := ⟨h.at (by simp), h⟩
theorem kc0_1 {u : World} {a0 : Addr} {x0 : Value} (h0 : u.cell? a0 = some x0) : KC u u [(a0, x0)] := ⟨fun p hp => by simp at hp; rcases hp with rfl; assumption, Below.refl _ _⟩
theorem kc1c {u v v' : World} {a0 : Addr} {x0 : Value} (k : Below v.heap.size v v') (h : v.cell? a0 = some x0 ∧ KC u v [(a0, x0)]) : v'.cell? a0 = some x0 ∧ KC u v' [(a0, x0)] := kc1 (KC.call h.2 k)
/-- The marks lie there. -/
def Lies (w : World) (a : Option Addr) (n m : Nat) (V : Nat → Value) : Prop := 0 < n → ∃ b off, a = some ⟨b, off, none⟩ ∧ b < w.heap.size ∧ ∀ j, j < m → w.cell? ⟨b, off + j, none⟩ = some (V j)
theorem Lies.below {w w' : World} {a : Option Addr} {n m : Nat} {V : Nat → Value} (h : Lies w a n m V) (hb : Below w.heap.size w w') : Lies w' a n m V := by
  intro hn
  obtain ⟨b, off, h1, h2, h3⟩ := h hn
  exact ⟨b, off, h1, Nat.lt_of_lt_of_le h2 hb.size, fun j hj => by rw [hb.cell (p := ⟨b, off + j, none⟩) h2]; exact h3 j hj⟩
theorem Marked.lies {S : Nat → Prop} {w w' : World} {a : Option Addr} {n m : Nat} {V : Nat → Value} {K : Value → Prop} (h : Marked S w a n m V K w') : Lies w' a n m V := by
  intro hn
  obtain ⟨b, off, h1, _, T, xs, h2, _, h3⟩ := h.2 hn
  exact ⟨b, off, h1, h2.lt, fun j hj => h2.cell (h3 j hj)⟩
set_option maxHeartbeats 4000000 in
theorem heldPairS_any (a : Option Addr) (n c k : Nat) (w : World) (h : Lies w a n (n * 2) (mV k)) (hc : n ≤ c) (hn : n ≤ 1048576) (hk0 : 0 < k) (hk : k ≤ 576460752303423488) :
    Calls Try.prog 19 #[.slice a n c, .int .i64 k] w fun e w' => e = .returned (.int .i64 ((k + n * 2 : Nat) : Int)) ∧ Below w.heap.size w w' := by
  have H0 := hid h
  clear h
  go_enter Try.func19, Try.ntmps19
  go_wp2_with fail
  go_loopw [1, 5] (fun x i wr => ∃ j : Nat, x = .int .i64 ((k + j * 2 : Nat) : Int) ∧ i = .int .i64 j ∧ j ≤ n ∧ Hid (Below w.heap.size w wr)) (fun _ i _ => n - (intOf i).toNat)
  case atStart => exact ⟨0, rfl, rfl, Nat.zero_le _, Below.refl _ _⟩
  case round =>
    obtain ⟨j, rfl, rfl, hj, HB⟩ := hrel
    by_cases hlt : j < n
    · have hlt' : (j : Int) < (n : Int) := by omega
      have hj0 : (0 : Int) ≤ (j : Int) := by omega
      obtain ⟨b, off, ha, hbl, hcell⟩ := (H0.out.below HB.out) (by omega)
      subst ha
      have c0 := hcell (j * 2) (by omega)
      have c1 := hcell (j * 2 + 1) (by omega)
      simp only [mV] at c0 c1
      rw [← Nat.add_assoc] at c1
      rw [← Nat.add_assoc] at c1
      have HT1 := hid (fun w => markText_at (k + j * 2) ((k + j * 2 : Nat) : Int) rfl w (by omega) (by omega))
      have HT2 := hid (fun w => markText_at (k + j * 2 + 1) (((k + j * 2 : Nat) : Int) + 1) (by omega) w (by omega) (by omega))
      clear hcell
      generalize mt (k + j * 2) = m1 at *
      generalize mt (k + j * 2 + 1) = m2 at *
      generalize hkz : k + j * 2 = kz at *
      have hkz1 : kz ≤ 576460754400575488 := by omega
      have HK := hid hkz
      have T1 := hid (kc0_1 c0)
      have C1' := hid c1
      clear hkz c1
      go_wp2_with fail
      go_region_held3 (fun v => v.cell? ⟨b, off + j * 2, none⟩ = some (.string m1) ∧ KC wr v [(⟨b, off + j * 2, none⟩, .string m1)])
        (first | assumption | exact kc1 (T1.out.call (below_drew _)) | exact kc1c hbC (by assumption))
        (first | (go_at_call 45; refine (HT1.out _).mono ?_; rintro e w1 ⟨rfl, hbC⟩))
      rename_i hS
      have B1 := hid hS.2.bel
      have d2 : w1.cell? ⟨b, off + j * 2 + 1, none⟩ = some (.string m2) := by rw [B1.out.cell (p := ⟨b, off + j * 2 + 1, none⟩) hbl]; exact C1'.out
      have T2 := hid (kc0_1 d2)
      clear hS c0 T1 HT1 hbC
      go_wp2_with fail
      go_region_held3 (fun v => v.cell? ⟨b, off + j * 2 + 1, none⟩ = some (.string m2) ∧ KC w1 v [(⟨b, off + j * 2 + 1, none⟩, .string m2)])
        (first | assumption | exact kc1 (T2.out.call (below_drew _)) | exact kc1c hbC (by assumption))
        (first | (go_at_call 45; refine (HT2.out _).mono ?_; rintro e w2 ⟨rfl, hbC⟩))
      rename_i hS
      have B2 := hid (Below.then' (Below.then' HB.out B1.out (Nat.le_refl _)) hS.2.bel (Nat.le_refl _))
      clear hS T2 HT2 d2
      go_wp2
      go_roundw
      case rel => exact ⟨j + 1, by rw [show k + (j + 1) * 2 = kz + 2 by have := HK.out; omega]; go_num, by go_num, by omega, B2.out⟩
      case measure => simp [intOf]; omega
    · have hlt' : ¬ (j : Int) < (n : Int) := by omega
      have hjn : j = n := by omega
      subst hjn
      have HK : Hid ((k : Int) + (j : Int) * 2 = ((k + j * 2 : Nat) : Int)) := by show _ = _; omega
      generalize k + j * 2 = kz at *
      go_wp2
      go_ret
      exact ⟨by rw [HK.out]; rfl, HB.out⟩
end Go.Proofs.Ytjplocdjbfpcgab
/-
  The law's helpers that write marks into an answer's tree and look whether they are still there: where all rows are apart, they are.
-/
namespace Go.Proofs.Ytjplocdjbfpcgab
open Go.RowKit
set_option linter.unusedVariables false
def cntN (x : NB) : Nat := x.ps.length * 2 + x.keys.length + x.kids.length
def offN (ns : List NB) : Nat → Nat
  | 0 => 0
  | i + 1 => offN ns i + cntN (nAt ns i)
def LiesV (w : World) (v : Value) (n m : Nat) (V : Nat → Value) : Prop := ∃ a c, v = .slice a n c ∧ n ≤ c ∧ Lies w a n m V
theorem LiesV.to {w w' : World} {R : Nat → Prop} {v : Value} {n m : Nat} {V : Nat → Value} (h : LiesV w v n m V) (ho : Only R w w') (hR : ∀ y, v.ownBlock = some y → ¬ R y) : LiesV w' v n m V := by
  obtain ⟨a, c, rfl, h1, h2⟩ := h
  refine ⟨a, c, rfl, h1, fun hn => ?_⟩
  obtain ⟨b, off, rfl, h4, h5⟩ := h2 hn
  exact ⟨b, off, rfl, Nat.lt_of_lt_of_le h4 ho.size, fun j hj => (World.cell?_of_block (w := w) (a := ⟨b, off + j, none⟩) (ho.block b h4 (hR b rfl))).trans (h5 j hj)⟩
def LiesN (w : World) (p : V3) (x : NB) (q : Nat) : Prop := LiesV w p.1 x.ps.length (x.ps.length * 2) (mV q) ∧ LiesV w p.2.1 x.keys.length x.keys.length (mV (q + x.ps.length * 2)) ∧ LiesV w p.2.2 x.kids.length x.kids.length (mI (q + x.ps.length * 2 + x.keys.length))
theorem LiesN.to {w w' : World} {R : Nat → Prop} {p : V3} {x : NB} {q : Nat} (h : LiesN w p x q) (ho : Only R w w') (hR : ∀ y, bl p y → ¬ R y) : LiesN w' p x q := ⟨h.1.to ho (fun y e => hR y (.inl e)), h.2.1.to ho (fun y e => hR y (.inr (.inl e))), h.2.2.to ho (fun y e => hR y (.inr (.inr e)))⟩
/-- The marks stand in all rows. -/
structure MkT (w : World) (v : Value) (V : List V3) (ns : List NB) (k : Nat) : Prop where
  len : V.length = ns.length
  row : w.ownsRow 0 67 3 v ns.length (ncs V)
  lie : ∀ i, i < ns.length → LiesN w (vAt V i) (nAt ns i) (k + offN ns i)
theorem MkT.below {w w' : World} {v : Value} {V : List V3} {ns : List NB} {k : Nat} (h : MkT w v V ns k) (hb : Below w.heap.size w w') : MkT w' v V ns k := ⟨h.len, own_kept h.row (only_of_below hb (fun _ => False)) (fun _ _ h => h), fun i hi => (h.lie i hi).to (only_of_below hb (fun _ => False)) (fun _ _ h => h)⟩
def smallK (ns : List NB) : Prop := ∀ i, i < ns.length → (nAt ns i).ps.length ≤ 1000 ∧ (nAt ns i).keys.length ≤ 1000 ∧ (nAt ns i).kids.length ≤ 1000
theorem offN_le {ns : List NB} (h : smallK ns) : ∀ i, i ≤ ns.length → offN ns i ≤ i * 4000
  | 0, _ => by simp [offN]
  | i + 1, hi => by
    have := offN_le h i (by omega)
    have h2 := h i (by omega)
    simp only [offN, cntN]
    omega
theorem kw_own {w : World} {base : Nat} {e : TypeId} {size : Nat} {v : Value} {n : Nat} {xs : List Value} {K : Value → Prop} (h : w.ownsRow base e size v n xs) (hx : ∀ u ∈ xs, K u) : Kw w (fun y => v.ownBlock = some y) v n xs.length K :=
  kw_of (rw_own h (S := fun y => v.ownBlock = some y) (fun k hk _ _ => hk)) hx (fun b hb _ => ⟨hb, by
    rcases h.2 with ⟨rfl, _⟩ | ⟨g, cap, cur, rfl, _, h4, _⟩
    · cases hb
    · have e : g = b := by simpa [Value.ownBlock] using hb
      subst e
      exact ⟨_, _, h4⟩⟩)
theorem row_cells {w : World} {g n c m : Nat} {V : List V3} (h : w.ownsRow 0 67 3 (.slice (some ⟨g, 0, none⟩) n c) m (ncs V)) {i : Nat} (hi : i < V.length) : w.cell? ⟨g, i * 3, none⟩ = some (vAt V i).1 ∧ w.cell? ⟨g, i * 3 + 1, none⟩ = some (vAt V i).2.1 ∧ w.cell? ⟨g, i * 3 + 2, none⟩ = some (vAt V i).2.2 := by
  have hc := World.ownsRow.cells h (g := g) rfl
  obtain ⟨c0, c1, c2⟩ := ncs_at V i hi
  have d0 := hc _ _ c0
  have d1 := hc _ _ c1
  have d2 := hc _ _ c2
  rw [Addr.add_lit, Nat.zero_add] at d0 d1 d2
  exact ⟨d0, d1, d2⟩
theorem row_cap {w : World} {base : Nat} {e : TypeId} {size : Nat} {a : Option Addr} {n c m : Nat} {xs : List Value} (h : w.ownsRow base e size (.slice a n c) m xs) : n = m ∧ n ≤ c ∧ c ≤ 9223372036854775807 := by
  rcases h.2 with ⟨h1, h2⟩ | ⟨g, cap, cur, h1, _, _, h3, h4, _⟩
  · cases h1; exact ⟨h2.symm, Nat.le_refl _, by omega⟩
  · cases h1; unfold maxLen at h4; exact ⟨rfl, h3, by omega⟩
set_option maxHeartbeats 2000000 in
theorem heldStringS_any (a : Option Addr) (n c k : Nat) (w : World) (h : Lies w a n n (mV k)) (hc : n ≤ c) (hn : n ≤ 1048576) (hk0 : 0 < k) (hk : k ≤ 576460752303423488) :
    Calls Try.prog 80 #[.slice a n c, .int .i64 k] w fun e w' => e = .returned (.int .i64 ((k + n : Nat) : Int)) ∧ Below w.heap.size w w' := by
  have H0 := hid h
  clear h
  go_enter Try.func80, Try.ntmps80
  go_wp2_with fail
  go_loopw [1, 5] (fun x i wr => ∃ j : Nat, x = .int .i64 ((k + j : Nat) : Int) ∧ i = .int .i64 j ∧ j ≤ n ∧ Hid (Below w.heap.size w wr)) (fun _ i _ => n - (intOf i).toNat)
  case atStart => exact ⟨0, rfl, rfl, Nat.zero_le _, Below.refl _ _⟩
  case round =>
    obtain ⟨j, rfl, rfl, hj, HB⟩ := hrel
    by_cases hlt : j < n
    · have hlt' : (j : Int) < (n : Int) := by omega
      have hj0 : (0 : Int) ≤ (j : Int) := by omega
      obtain ⟨b, off, ha, hbl, hcell⟩ := (H0.out.below HB.out) (by omega)
      subst ha
      have c0 := hcell j (by omega)
      simp only [mV] at c0
      have HT1 := hid (fun w => markText_at (k + j) ((k + j : Nat) : Int) rfl w (by omega) (by omega))
      clear hcell
      generalize mt (k + j) = m1 at *
      generalize hkz : k + j = kz at *
      have hkz1 : kz ≤ 576460754400575488 := by omega
      have HK := hid hkz
      have T1 := hid (kc0_1 c0)
      clear hkz
      go_wp2_with fail
      go_region_held3 (fun v => v.cell? ⟨b, off + j, none⟩ = some (.string m1) ∧ KC wr v [(⟨b, off + j, none⟩, .string m1)])
        (first | assumption | exact kc1 (T1.out.call (below_drew _)) | exact kc1c hbC (by assumption))
        (first | (go_at_call 45; refine (HT1.out _).mono ?_; rintro e w1 ⟨rfl, hbC⟩))
      rename_i hS
      have B1 := hid (Below.then' HB.out hS.2.bel (Nat.le_refl _))
      clear hS c0 T1 HT1 hbC
      go_wp2
      go_roundw
      case rel => exact ⟨j + 1, by rw [show k + (j + 1) = kz + 1 by have := HK.out; omega]; go_num, by go_num, by omega, B1.out⟩
      case measure => simp [intOf]; omega
    · have hlt' : ¬ (j : Int) < (n : Int) := by omega
      have hjn : j = n := by omega
      subst hjn
      have HK : Hid ((k : Int) + (j : Int) = ((k + j : Nat) : Int)) := by show _ = _; omega
      generalize k + j = kz at *
      go_wp2
      go_ret
      exact ⟨by rw [HK.out]; rfl, HB.out⟩
set_option maxHeartbeats 2000000 in
theorem heldIntS_any (a : Option Addr) (n c k : Nat) (w : World) (h : Lies w a n n (mI k)) (hc : n ≤ c) (hn : n ≤ 1048576) (hk0 : 0 < k) (hk : k ≤ 576460752303423488) :
    Calls Try.prog 81 #[.slice a n c, .int .i64 k] w fun e w' => e = .returned (.int .i64 ((k + n : Nat) : Int)) ∧ w' = w := by
  have H0 := hid h
  clear h
  go_enter Try.func81, Try.ntmps81
  go_wp2_with fail
  go_loop [1, 5] (fun x i => ∃ j : Nat, x = .int .i64 ((k + j : Nat) : Int) ∧ i = .int .i64 j ∧ j ≤ n) (fun _ i => n - (intOf i).toNat)
  case atStart => exact ⟨0, rfl, rfl, Nat.zero_le _⟩
  case round =>
    obtain ⟨j, rfl, rfl, hj⟩ := hrel
    by_cases hlt : j < n
    · have hlt' : (j : Int) < (n : Int) := by omega
      have hj0 : (0 : Int) ≤ (j : Int) := by omega
      obtain ⟨b, off, ha, hbl, hcell⟩ := H0.out (by omega)
      subst ha
      have c0 := hcell j (by omega)
      simp only [mI] at c0
      clear hcell
      generalize hkz : k + j = kz at *
      have hkz1 : kz ≤ 576460754400575488 := by omega
      have HK := hid hkz
      clear hkz
      go_wp2
      go_round
      case rel => exact ⟨j + 1, by rw [show k + (j + 1) = kz + 1 by have := HK.out; omega]; go_num, by go_num, by omega⟩
      case measure => simp [intOf]; omega
    · have hlt' : ¬ (j : Int) < (n : Int) := by omega
      have hjn : j = n := by omega
      subst hjn
      have HK : Hid ((k : Int) + (j : Int) = ((k + j : Nat) : Int)) := by show _ = _; omega
      generalize k + j = kz at *
      go_wp2
      go_ret
      exact ⟨by rw [HK.out]; rfl, rfl⟩
end Go.Proofs.Ytjplocdjbfpcgab
/-
  Marks in an answer's tree, and whether they are still there: the lists of nodes.
-/
namespace Go.Proofs.Ytjplocdjbfpcgab
open Go.RowKit
set_option linter.unusedVariables false
def MarkPost (w : World) (v : Value) (V : List V3) (ns : List NB) (k : Nat) (e : Ending) (w' : World) : Prop := e = .returned (.int .i64 ((k + offN ns ns.length : Nat) : Int)) ∧ MkT w' v V ns k ∧ Only (fun y => ∃ i, i < ns.length ∧ bl (vAt V i) y) w w'
set_option maxHeartbeats 4000000 in
set_option maxRecDepth 20000 in
theorem markNodeS_ex (a : Option Addr) (n c k : Nat) (V : List V3) (ns : List NB) (w : World) (h : NA w (.slice a n c) V ns) (hs : smallK ns) (hn : ns.length ≤ 100000) (hk0 : 0 < k) (hk : k ≤ 1000000) :
    Calls Try.prog 44 #[.slice a n c, .int .i64 k] w fun e w' => MarkPost w (.slice a n c) V ns k e w' := by
  obtain ⟨hnn, hnc, hcm⟩ := row_cap h.row
  have HNN := hid hnn
  have hn1 : n ≤ 100000 := by omega
  have H0 := hid h
  have HS := hid hs
  clear h hs hnn hn
  go_enter Try.func44, Try.ntmps44
  go_wp2_with fail
  go_loopw [1, 5] (fun x i wr => ∃ j q : Nat, x = .int .i64 (q : Int) ∧ i = .int .i64 j ∧ j ≤ n ∧ Hid (q = k + offN ns j) ∧ Hid (Only (fun y => ∃ i, i < j ∧ bl (vAt V i) y) w wr) ∧ Hid (∀ i, i < j → LiesN wr (vAt V i) (nAt ns i) (k + offN ns i))) (fun _ i _ => n - (intOf i).toNat)
  case atStart => exact ⟨0, k, rfl, rfl, Nat.zero_le _, rfl, Only.refl _ _, fun i hi => absurd hi (Nat.not_lt_zero _)⟩
  case round =>
    obtain ⟨j, q, rfl, rfl, hj, HQ, HO, HL⟩ := hrel
    by_cases hlt : j < n
    · have hlt' : (j : Int) < (n : Int) := by omega
      have hj0 : (0 : Int) ≤ (j : Int) := by omega
      have hjl : j < ns.length := by rw [← HNN.out]; exact hlt
      have hq1 : 0 < q := by have := HQ.out; omega
      have hq2 : q ≤ 1000000000 := by have h1 := HQ.out; have h2 := offN_le HS.out j (by omega); omega
      have hbd := HS.out j hjl
      have hown := (H0.out.own j hjl).1.to HO.out (fun y hy => by
        rintro ⟨i, hi, hb⟩
        exact H0.out.apart j i hjl (by omega) (by omega) y hy hb)
      have hrow := own_kept H0.out.row HO.out (fun y e => by
        rintro ⟨i, hi, hb⟩
        exact H0.out.off i (by omega) y hb e)
      obtain ⟨g, ha, -⟩ : ∃ g, a = some ⟨g, 0, none⟩ ∧ True := by
        obtain ⟨g, e, _⟩ := H0.out.rowAt (by omega)
        exact ⟨g, e, trivial⟩
      subst ha
      have HRW := hid hrow
      have HAP := hid (H0.out.own j hjl).2
      have HOF : Hid (∀ y, bl (vAt V j) y → y ≠ g) := fun y hy e => H0.out.off j hjl y hy (by rw [e]; rfl)
      have hvl : j < V.length := by rw [H0.out.len]; exact hjl
      obtain ⟨c0, -, -⟩ := row_cells hrow hvl
      have HOW := hid hown
      have HQN : Hid (offN ns (j + 1) = offN ns j + cntN (nAt ns j)) := rfl
      obtain ⟨ap, cp, e0⟩ := own_shape hown.1
      obtain ⟨ax, cx, e1⟩ := own_shape hown.2.1
      obtain ⟨ai, ci, e2⟩ := own_shape hown.2.2
      have HVL := hid hvl
      clear hrow hown hvl
      generalize hxx : nAt ns j = xx at *
      have HXX := hid hxx
      generalize hpp : vAt V j = pp at *
      have HPP := hid hpp
      obtain ⟨p0, p1, p2⟩ := pp
      simp only at e0 e1 e2 c0
      clear hxx hpp
      generalize hnp : xx.ps.length = np at *
      generalize hnx : xx.keys.length = nx at *
      generalize hni : xx.kids.length = ni at *
      have HLN := hid (And.intro hnp (And.intro hnx hni))
      clear hnp hnx hni
      subst e0 e1 e2
      obtain ⟨b1, b2, b3⟩ := hbd
      have K1 : Hid (Kw wr (fun y => (Value.slice ap np cp).ownBlock = some y) (.slice ap np cp) np (np * 2) isStr) := by
        have := kw_own (K := isStr) HOW.out.1 (fun u hu => pcs_str _ u hu)
        rw [pcs_length, HLN.out.1] at this
        exact this
      have K2 : Hid (Kw wr (fun y => (Value.slice ax nx cx).ownBlock = some y) (.slice ax nx cx) nx nx isStr) := by
        have := kw_own (K := isStr) HOW.out.2.1 (fun u hu => by simp at hu; obtain ⟨s, _, rfl⟩ := hu; exact ⟨s, rfl⟩)
        rw [List.length_map, HLN.out.2.1] at this
        exact this
      have K3 : Hid (Kw wr (fun y => (Value.slice ai ni ci).ownBlock = some y) (.slice ai ni ci) ni ni isInt) := by
        have := kw_own (K := isInt) HOW.out.2.2 (fun u hu => by simp at hu; obtain ⟨s, _, rfl⟩ := hu; exact ⟨s, rfl⟩)
        rw [List.length_map, HLN.out.2.2] at this
        exact this
      have hcaps : np ≤ cp ∧ nx ≤ cx ∧ ni ≤ ci := ⟨(row_cap HOW.out.1).2.1, (row_cap HOW.out.2.1).2.1, (row_cap HOW.out.2.2).2.1⟩
      have HCP := hid hcaps
      clear hcaps HOW
      go_wp2_with fail
      refine (markPairS_any _ ap np cp q wr K1.out (by omega) hq1 (by omega)).mono ?_
      rintro e w1 ⟨rfl, hm⟩
      have HM1 := hid hm.1.only
      have HL1 := hid hm.lies
      have HK2 := hid (K2.out.mk hm.1 kind_str)
      have HK3 := hid (K3.out.mk hm.1 kind_int)
      have HR1 : Hid (w1.ownsRow 0 67 3 (.slice (some ⟨g, 0, none⟩) n c) ns.length (ncs V)) := own_kept HRW.out HM1.out (fun y e e2 => HOF.out y (.inl e2) (by simpa [Value.ownBlock] using e.symm))
      obtain ⟨-, c1, -⟩ := row_cells HR1.out HVL.out
      rw [HPP.out] at c1
      simp only at c1
      have hs1 : q + np * 2 ≤ 1000010000 := by omega
      have hs0 : 0 < q + np * 2 := by omega
      have HQ1 : Hid (∃ z, z = q + np * 2) := ⟨_, rfl⟩
      clear hm K1 K2 K3 c0 HQ1
      generalize hq1' : q + np * 2 = q1 at *
      have HQ1 := hid hq1'
      clear hq1'
      go_wp2_with fail
      refine (markStringS_any _ ax nx cx q1 w1 HK2.out (by omega) hs0 (by omega)).mono ?_
      rintro e w2 ⟨rfl, hm⟩
      have HM2 := hid hm.1.only
      have HL2 := hid hm.lies
      have HK4 := hid (HK3.out.mk hm.1 kind_int)
      have HR2 : Hid (w2.ownsRow 0 67 3 (.slice (some ⟨g, 0, none⟩) n c) ns.length (ncs V)) := own_kept HR1.out HM2.out (fun y e e2 => HOF.out y (.inr (.inl e2)) (by simpa [Value.ownBlock] using e.symm))
      obtain ⟨-, -, c2⟩ := row_cells HR2.out HVL.out
      rw [HPP.out] at c2
      simp only at c2
      have hs3 : q1 + nx ≤ 1000020000 := by omega
      have hs4 : 0 < q1 + nx := by omega
      clear hm HK2 HK3 c1
      generalize hq2' : q1 + nx = q2 at *
      have HQ2 := hid hq2'
      clear hq2'
      go_wp2_with fail
      refine (markIntS_any _ ai ni ci q2 w2 HK4.out (by omega) hs4 (by omega)).mono ?_
      rintro e w3 ⟨rfl, hm⟩
      have HM3 := hid hm.1.only
      have HL3 := hid hm.lies
      clear hm HK4 c2
      have HO3 : Hid (Only (fun y => ∃ i, i < j + 1 ∧ bl (vAt V i) y) w w3) := by
        have o1 := HM1.out.mono (R' := fun y => ∃ i, i < j + 1 ∧ bl (vAt V i) y) (fun y _ e => ⟨j, by omega, by rw [HPP.out]; exact .inl e⟩)
        have o2 := HM2.out.mono (R' := fun y => ∃ i, i < j + 1 ∧ bl (vAt V i) y) (fun y _ e => ⟨j, by omega, by rw [HPP.out]; exact .inr (.inl e)⟩)
        have o3 := HM3.out.mono (R' := fun y => ∃ i, i < j + 1 ∧ bl (vAt V i) y) (fun y _ e => ⟨j, by omega, by rw [HPP.out]; exact .inr (.inr e)⟩)
        exact (((HO.out.mono (fun y _ ⟨i, hi, hb⟩ => ⟨i, by omega, hb⟩)).trans o1).trans o2).trans o3
      have HLF : Hid (∀ i, i < j + 1 → LiesN w3 (vAt V i) (nAt ns i) (k + offN ns i)) := by
        intro i hi
        by_cases e : i = j
        · subst e
          rw [HPP.out, HXX.out]
          unfold LiesN
          rw [HLN.out.1, HLN.out.2.1, HLN.out.2.2, ← HQ.out, HQ1.out, HQ2.out]
          have hap := HAP.out
          refine ⟨(LiesV.to ⟨_, cp, rfl, HCP.out.1, HL1.out⟩ HM2.out (fun y e e2 => ((hap y).1 e).1 e2)).to HM3.out (fun y e e2 => ((hap y).1 e).2 e2), LiesV.to ⟨ax, cx, rfl, HCP.out.2.1, HL2.out⟩ HM3.out (fun y e e2 => (hap y).2 e e2), ⟨ai, ci, rfl, HCP.out.2.2, HL3.out⟩⟩
        · have h1 := HL.out i (by omega)
          have hd : ∀ y, bl (vAt V i) y → ¬ bl (Value.slice ap np cp, Value.slice ax nx cx, Value.slice ai ni ci) y := fun y hy hz => H0.out.apart i j (by omega) hjl e y hy (by rw [HPP.out]; exact hz)
          exact ((h1.to HM1.out (fun y hy e => hd y hy (.inl e))).to HM2.out (fun y hy e => hd y hy (.inr (.inl e)))).to HM3.out (fun y hy e => hd y hy (.inr (.inr e)))
      have HQ3 : Hid (q2 + ni = k + offN ns (j + 1)) := by
        show _ = _
        rw [HQN.out, cntN, HLN.out.1, HLN.out.2.1, HLN.out.2.2, ← HQ2.out, ← HQ1.out, HQ.out]; omega
      go_wp2
      go_roundw
      case rel => exact ⟨j + 1, q2 + ni, by go_num, by go_num, by omega, HQ3.out, HO3.out, HLF.out⟩
      case measure => simp [intOf]; omega
    · have hlt' : ¬ (j : Int) < (n : Int) := by omega
      have hjn : j = ns.length := by rw [← HNN.out]; omega
      subst hjn
      have HF : Hid (MkT wr (.slice a n c) V ns k) := ⟨H0.out.len, own_kept H0.out.row HO.out (fun y e => by rintro ⟨i, hi, hb⟩; exact H0.out.off i hi y hb e), HL.out⟩
      clear HL
      go_wp2
      go_ret
      exact ⟨by rw [← HQ.out]; rfl, HF.out, HO.out⟩
set_option maxHeartbeats 1000000 in
theorem markTree_ex (a : Option Addr) (n c k : Nat) (V : List V3) (ns : List NB) (w : World) (h : NA w (.slice a n c) V ns) (hs : smallK ns) (hn : ns.length ≤ 100000) (hk0 : 0 < k) (hk : k ≤ 1000000) :
    Calls Try.prog 17 #[.agg #[.slice a n c], .int .i64 k] w fun e w' => MarkPost w (.slice a n c) V ns k e w' := by
  have hb := below_new (o := .cells #[.slice a n c] 29) (w := w) (Below.refl _ _)
  have HN := hid (markNodeS_ex a n c k V ns _ (h.kept hb) hs hn hk0 hk)
  have c0 := (Bk.new w 29 [.slice a n c]).cell (j := 0) rfl
  have HB := hid hb
  clear h hs hb
  go_enter Try.func17, Try.ntmps17
  go_wp2_with fail
  refine HN.out.mono ?_
  rintro e w1 ⟨rfl, hm, ho⟩
  have HM := hid hm
  have HO := hid ((only_of_below HB.out _).trans ho)
  clear hm ho
  generalize hq : k + offN ns ns.length = q at *
  have HQ := hid hq
  clear hq
  go_wp2
  go_ret
  exact ⟨by rw [HQ.out]; rfl, HM.out, HO.out⟩
set_option maxHeartbeats 4000000 in
set_option maxRecDepth 20000 in
theorem heldNodeS_any (a : Option Addr) (n c k : Nat) (V : List V3) (ns : List NB) (w : World) (h : MkT w (.slice a n c) V ns k) (hs : smallK ns) (hn : ns.length ≤ 100000) (hk0 : 0 < k) (hk : k ≤ 1000000) :
    Calls Try.prog 55 #[.slice a n c, .int .i64 k] w fun e w' => e = .returned (.int .i64 ((k + offN ns ns.length : Nat) : Int)) ∧ Below w.heap.size w w' := by
  obtain ⟨hnn, hnc, hcm⟩ := row_cap h.row
  have HNN := hid hnn
  have hn1 : n ≤ 100000 := by omega
  have H0 := hid h
  have HS := hid hs
  clear h hs hnn hn
  go_enter Try.func55, Try.ntmps55
  go_wp2_with fail
  go_loopw [1, 5] (fun x i wr => ∃ j q : Nat, x = .int .i64 (q : Int) ∧ i = .int .i64 j ∧ j ≤ n ∧ Hid (q = k + offN ns j) ∧ Hid (Below w.heap.size w wr)) (fun _ i _ => n - (intOf i).toNat)
  case atStart => exact ⟨0, k, rfl, rfl, Nat.zero_le _, rfl, Below.refl _ _⟩
  case round =>
    obtain ⟨j, q, rfl, rfl, hj, HQ, HB⟩ := hrel
    by_cases hlt : j < n
    · have hlt' : (j : Int) < (n : Int) := by omega
      have hj0 : (0 : Int) ≤ (j : Int) := by omega
      have hjl : j < ns.length := by rw [← HNN.out]; exact hlt
      have hq1 : 0 < q := by have := HQ.out; omega
      have hq2 : q ≤ 1000000000 := by have h1 := HQ.out; have h2 := offN_le HS.out j (by omega); omega
      have hbd := HS.out j hjl
      have H1 := hid (H0.out.below HB.out)
      obtain ⟨g, ha, -⟩ : ∃ g, a = some ⟨g, 0, none⟩ ∧ True := by
        rcases H0.out.row.2 with ⟨e, e2⟩ | ⟨g, cap, cur, e, _⟩
        · omega
        · cases e; exact ⟨g, rfl, trivial⟩
      subst ha
      have hvl : j < V.length := by rw [H0.out.len]; exact hjl
      have HVL := hid hvl
      obtain ⟨c0, -, -⟩ := row_cells H1.out.row hvl
      have hlie := H1.out.lie j hjl
      rw [← HQ.out] at hlie
      have HQN : Hid (offN ns (j + 1) = offN ns j + cntN (nAt ns j)) := rfl
      generalize hpp : vAt V j = pp at *
      have HPP := hid hpp
      obtain ⟨p0, p1, p2⟩ := pp
      generalize hxx : nAt ns j = xx at *
      clear hpp hxx hvl
      unfold LiesN at hlie
      generalize hnp : xx.ps.length = np at *
      generalize hnx : xx.keys.length = nx at *
      generalize hni : xx.kids.length = ni at *
      have HLN := hid (And.intro hnp (And.intro hnx hni))
      clear hnp hnx hni
      obtain ⟨⟨ap, cp, e0, hc0, l0⟩, ⟨ax, cx, e1, hc1, l1⟩, ⟨ai, ci, e2, hc2, l2⟩⟩ := hlie
      simp only at e0 e1 e2 c0
      subst e0 e1 e2
      have L1 := hid l1
      have L2 := hid l2
      obtain ⟨b1, b2, b3⟩ := hbd
      have HP := hid (heldPairS_any ap np cp q wr l0 hc0 (by omega) hq1 (by omega))
      clear l0 l1 l2
      go_wp2_with fail
      refine HP.out.mono ?_
      rintro e w1 ⟨rfl, hb⟩
      have HB1 := hid (Below.then' HB.out hb (Nat.le_refl _))
      obtain ⟨-, c1, -⟩ := row_cells (H1.out.below hb).row HVL.out
      rw [HPP.out] at c1
      simp only at c1
      have M1 := hid (L1.out.below hb)
      have M2 := hid (L2.out.below hb)
      have H2 := hid (H1.out.below hb)
      have hs1 : q + np * 2 ≤ 1000010000 := by omega
      have hs0 : 0 < q + np * 2 := by omega
      clear hb c0 HP L1 L2 H1
      generalize hq1' : q + np * 2 = q1 at *
      have HQ1 := hid hq1'
      have HP2 := hid (heldStringS_any ax nx cx q1 w1 M1.out hc1 (by omega) hs0 (by omega))
      clear hq1'
      have hn0 : ¬ (q1 : Int) < 0 := by omega
      go_wp2_with fail
      refine HP2.out.mono ?_
      rintro e w2 ⟨rfl, hb⟩
      have HB2 := hid (Below.then' HB1.out hb (Nat.le_refl _))
      obtain ⟨-, -, c2⟩ := row_cells (H2.out.below hb).row HVL.out
      rw [HPP.out] at c2
      simp only at c2
      have N2 := hid (M2.out.below hb)
      have hs3 : q1 + nx ≤ 1000020000 := by omega
      have hs4 : 0 < q1 + nx := by omega
      clear hb c1 HP2 M1 M2 H2
      generalize hq2' : q1 + nx = q2 at *
      have HQ2 := hid hq2'
      have HP3 := hid (heldIntS_any ai ni ci q2 w2 N2.out hc2 (by omega) hs4 (by omega))
      clear hq2'
      have hn2 : ¬ (q2 : Int) < 0 := by omega
      go_wp2_with fail
      refine HP3.out.mono ?_
      rintro e w3 ⟨rfl, rfl⟩
      have HQ3 : Hid (q2 + ni = k + offN ns (j + 1)) := by
        show _ = _
        rw [HQN.out, cntN, HLN.out.1, HLN.out.2.1, HLN.out.2.2, ← HQ2.out, ← HQ1.out, HQ.out]; omega
      have hs5 : q2 + ni ≤ 1000030000 := by omega
      clear c2 HP3 N2
      generalize hq3' : q2 + ni = q3 at *
      clear hq3'
      have hn3 : ¬ (q3 : Int) < 0 := by omega
      go_wp2
      go_roundw
      case rel => exact ⟨j + 1, q3, rfl, by go_num, by omega, HQ3.out, HB2.out⟩
      case measure => simp [intOf]; omega
    · have hlt' : ¬ (j : Int) < (n : Int) := by omega
      have hjn : j = ns.length := by rw [← HNN.out]; omega
      subst hjn
      have HE : Hid ((k : Int) + (offN ns ns.length : Int) = (q : Int)) := by have := HQ.out; show _ = _; omega
      go_wp2
      go_ret
      exact ⟨by rw [HE.out]; rfl, HB.out⟩
set_option maxHeartbeats 1000000 in
theorem heldTree_any (a : Option Addr) (n c k : Nat) (V : List V3) (ns : List NB) (w : World) (h : MkT w (.slice a n c) V ns k) (hs : smallK ns) (hn : ns.length ≤ 100000) (hk0 : 0 < k) (hk : k ≤ 1000000) :
    Calls Try.prog 24 #[.agg #[.slice a n c], .int .i64 k] w fun e w' => e = .returned (.int .i64 ((k + offN ns ns.length : Nat) : Int)) ∧ Below w.heap.size w w' := by
  have hb := below_new (o := .cells #[.slice a n c] 29) (w := w) (Below.refl _ _)
  have HN := hid (heldNodeS_any a n c k V ns _ (h.below hb) hs hn hk0 hk)
  have c0 := (Bk.new w 29 [.slice a n c]).cell (j := 0) rfl
  have HB := hid hb
  clear h hs hb
  go_enter Try.func24, Try.ntmps24
  go_wp2_with fail
  refine HN.out.mono ?_
  rintro e w1 ⟨rfl, hb⟩
  have HB1 := hid (Below.then' HB.out hb (Nat.le_refl _))
  clear hb
  generalize hq : k + offN ns ns.length = q at *
  have HQ := hid hq
  clear hq
  have hn0 : ¬ (q : Int) < 0 := by omega
  go_wp2
  go_ret
  exact ⟨by rw [HQ.out]; rfl, HB1.out⟩
mutual
theorem lay_small : ∀ (t : T) (r : Bool) (a : Nat), t.full r = true → ∀ x ∈ lay a t, x.ps.length ≤ 1000 ∧ x.keys.length ≤ 1000 ∧ x.kids.length ≤ 1000
  | .mk ps ks, r, a, h, x, hx => by
    by_cases hk : ks = []
    · subst hk
      have := (full_lf h).1
      simp [lay] at hx
      subst hx
      simp; omega
    · obtain ⟨_, h2, rfl, h3⟩ := full_br h hk
      simp only [lay, hk, if_false, List.mem_cons] at hx
      rcases hx with rfl | hx
      · simp only [List.length_nil, List.length_map, List.length_tail, places_length]; omega
      · exact layL_small ks (a + 1) h3 x hx
theorem layL_small : ∀ (ks : List T) (a : Nat), (∀ k ∈ ks, k.full false = true) → ∀ x ∈ layL a ks, x.ps.length ≤ 1000 ∧ x.keys.length ≤ 1000 ∧ x.kids.length ≤ 1000
  | [], a, _, x, hx => by simp [layL] at hx
  | k :: ks, a, h, x, hx => by
    rw [layL] at hx
    rcases List.mem_append.1 hx with hx | hx
    · exact lay_small k false a (h k (by simp)) x hx
    · exact layL_small ks (a + k.size) (fun y hy => h y (by simp [hy])) x hx
end
theorem smallK_of {ns : List NB} (h : ∀ x ∈ ns, x.ps.length ≤ 1000 ∧ x.keys.length ≤ 1000 ∧ x.kids.length ≤ 1000) : smallK ns := by
  intro i hi
  have : nAt ns i ∈ ns := by simp [nAt, hi]
  exact h _ this
end Go.Proofs.Ytjplocdjbfpcgab
/-
  l03Tree and TreePut of the specification.
-/
namespace Go.Proofs.Ytjplocdjbfpcgab
open Go.RowKit
/-- A root that has one kid alone gives way to it. -/
def strip1 (t : T) : T := if t.ks.length = 1 then tAt t.ks 0 else t
theorem strip1_id {t : T} (h : t.ks.length ≠ 1) : strip1 t = t := by rw [strip1, if_neg h]
def kidsN (w : World) (a : Addr) : Nat := match w.cell? a with
  | some (.slice _ n _) => if n = 1 then 1 else 0
  | _ => 0
/-- A list of nodes that is there to be read, in new blocks. -/
def NewN (w w' : World) (v : Value) (ms : List NB) : Prop := Nr w' (fun y => w.heap.size ≤ y ∧ y < w'.heap.size) v ms
theorem NewN.kept {w w' w2 : World} {v : Value} {ms : List NB} (h : NewN w w' v ms) (hb : Below w'.heap.size w' w2) : NewN w w2 v ms := (Nr.below h hb).mono (fun _ hy _ => ⟨hy.1, Nat.lt_of_lt_of_le hy.2 hb.size⟩)
theorem NewN.nil (w w' : World) : NewN w w' (.slice none 0 0) [] := ⟨[], rfl, rw_nil _ _, fun i hi => by simp at hi⟩
def NewK (w w' : World) (v : Value) (ms : List NB) : Prop := NrK w' (fun y => w.heap.size ≤ y ∧ y < w'.heap.size) v ms
theorem NewK.nil (w w' : World) : NewK w w' (.slice none 0 0) [] := nrK_nil _ _
theorem NewK.new {w w' : World} {v : Value} {ms : List NB} (h : NewK w w' v ms) : NewN w w' v ms := NrK.nr h
def STree (w : World) (ms : List NB) (e : Ending) (w' : World) : Prop := ∃ a n c, e = .returned (.agg #[.slice a n c]) ∧ NewK w w' (.slice a n c) ms ∧ Below w.heap.size w w'
set_option maxHeartbeats 2000000 in
set_option maxRecDepth 20000 in
theorem specTree_any (S : Nat → Prop) (lf : Bool) (ap ak : Option Addr) (np cp nk ck : Nat) (t : T) (w : World) (h : Sub w S lf (.slice ap np cp) (.slice ak nk ck) t) (h1 : (strip1 t).ks.length ≠ 1) (hf : (strip1 t).full true = true ∨ strip1 t = bareT) (hz : (strip1 t).size ≤ 1048576) :
    Calls Try.prog 51 #[.agg #[.bool lf, .slice ap np cp, .slice ak nk ck]] w fun e w' => STree w (layT (strip1 t)) e w' := by
  obtain ⟨_, _, _, _, _, _, e1, e2, -, -, -, -, -, -⟩ := h.shape
  cases e1
  cases e2
  have H0 : Hid (Sub w (fun y => y < w.heap.size) lf (.slice ap np cp) (.slice ak nk ck) t) := h.mono (fun y hy hl => hl)
  have HB0 : Hid (Below w.heap.size w ((w.alloc (.cells #[.bool lf, .slice ap np cp, .slice ak nk ck] 55)).alloc (.cells #[.slice none 0 0] 29))) := below_new (below_new (Below.refl _ _))
  have K0 : Hid (Bk ((w.alloc (.cells #[.bool lf, .slice ap np cp, .slice ak nk ck] 55)).alloc (.cells #[.slice none 0 0] 29)) w.heap.size 55 [.bool lf, .slice ap np cp, .slice ak nk ck]) := (Bk.new w 55 [.bool lf, .slice ap np cp, .slice ak nk ck]).alloc _
  have KR : Hid (Bk ((w.alloc (.cells #[.bool lf, .slice ap np cp, .slice ak nk ck] 55)).alloc (.cells #[.slice none 0 0] 29)) (w.heap.size + 1) 29 [.slice none 0 0]) := by
    have := Bk.new (w.alloc (.cells #[.bool lf, .slice ap np cp, .slice ak nk ck] 55)) 29 [.slice none 0 0]
    show Bk _ _ _ _
    simpa using this
  have HS := hid h1
  have HF := hid hf
  have HZ := hid hz
  clear h h1 hf hz
  generalize hT : strip1 t = T0 at *
  have HT := hid hT
  clear hT
  go_enter Try.func51, Try.ntmps51
  go_wp2_with fail
  go_loopw [3] (fun x wr => ∃ (l : Bool) (a0 b0 : Option Addr) (n0 c0 m0 d0 : Nat) (t' : T), x = x ∧ Hid (Bk wr w.heap.size 55 [.bool l, .slice a0 n0 c0, .slice b0 m0 d0]) ∧ Hid (Sub wr (fun y => y < w.heap.size) l (.slice a0 n0 c0) (.slice b0 m0 d0) t') ∧ Hid (strip1 t' = T0) ∧ Hid (Bk wr (w.heap.size + 1) 29 [.slice none 0 0]) ∧ Hid (Below w.heap.size w wr)) (fun _ wr => kidsN wr ⟨w.heap.size, 2, none⟩)
  case atStart => exact ⟨lf, ap, ak, np, cp, nk, ck, t, rfl, K0.out, H0.out.kept HB0.out, HT.out, KR.out, HB0.out⟩
  case round =>
    obtain ⟨l, a0, b0, n0, c0, m0, d0, t', -, HK, HSB, HE, HR, HB⟩ := hrel
    obtain ⟨_, _, _, _, _, _, e1, e2, HN0, HM0, -, -, hl, -⟩ := HSB.out.shape
    cases e1
    cases e2
    have q0 := HK.out.cell (j := 0) rfl
    have q1 := HK.out.cell (j := 1) rfl
    have q2 := HK.out.cell (j := 2) rfl
    have f0 := HK.out.free 0
    have f1 := HK.out.free 1
    have f2 := HK.out.free 2
    by_cases hm : m0 = 1
    · have hl' : l = false := by rw [hl, hm]; rfl
      subst hm
      subst hl'
      obtain ⟨g, off, hab, hg1, hg2, hkid⟩ := HSB.out.kids (by omega)
      subst hab
      obtain ⟨l9, ap9, np9, cp9, ak9, nk9, ck9, x0, x1, x2, hs9⟩ := hkid 0 (by omega)
      simp only [Nat.zero_mul, Nat.add_zero] at x0 x1 x2
      have hE : tAt t'.ks 0 = T0 := by
        have := HE.out
        rwa [strip1, if_pos HM0.out.symm] at this
      have HN9 : Hid (nk9 ≠ 1) := by
        obtain ⟨_, _, _, _, _, _, _, e2, -, h5, -⟩ := hs9.shape
        cases e2
        rw [hE] at h5
        show _ ≠ _
        rw [h5.out]; exact HS.out
      rw [hE] at hs9
      have hon : Only (fun y => y = w.heap.size) wr (((wr.setCell ⟨w.heap.size, 0, none⟩ (.bool l9)).setCell ⟨w.heap.size, 1, none⟩ (.slice ap9 np9 cp9)).setCell ⟨w.heap.size, 2, none⟩ (.slice ak9 nk9 ck9)) := ((only_set (R := fun y => y = w.heap.size) rfl _).trans (only_set (R := fun y => y = w.heap.size) rfl _)).trans (only_set (R := fun y => y = w.heap.size) rfl _)
      have HK2 := hid (((HK.out.set 0 (.bool l9)).set 1 (.slice ap9 np9 cp9)).set 2 (.slice ak9 nk9 ck9))
      have HS2 := hid (hs9.to hon (fun y hy _ e => by omega))
      have HR2 := hid (HR.out.to hon (by omega))
      have HB2 : Hid (Below w.heap.size w (((wr.setCell ⟨w.heap.size, 0, none⟩ (.bool l9)).setCell ⟨w.heap.size, 1, none⟩ (.slice ap9 np9 cp9)).setCell ⟨w.heap.size, 2, none⟩ (.slice ak9 nk9 ck9))) := HB.out.trans (hon.below HB.out.size (fun b hb e => by omega))
      have HM1 : Hid (kidsN wr ⟨w.heap.size, 2, none⟩ = 1) := by show _ = _; rw [kidsN, q2]; simp
      have HM2 : Hid (kidsN (((wr.setCell ⟨w.heap.size, 0, none⟩ (.bool l9)).setCell ⟨w.heap.size, 1, none⟩ (.slice ap9 np9 cp9)).setCell ⟨w.heap.size, 2, none⟩ (.slice ak9 nk9 ck9)) ⟨w.heap.size, 2, none⟩ = 0) := by
        show _ = _
        rw [kidsN, HK2.out.cell (j := 2) rfl]
        simp [HN9.out]
      clear hkid hs9 hon hg1 hg2 hl hE
      go_wp2
      go_roundw
      case rel => exact ⟨l9, ap9, ak9, np9, cp9, nk9, ck9, T0, trivial, HK2.out, HS2.out, strip1_id HS.out, HR2.out, HB2.out⟩
      case measure => rw [HM2.out, HM1.out]; omega
    · have hE : t' = T0 := by
        have := HE.out
        rwa [strip1, if_neg (by rw [← HM0.out]; exact hm)] at this
      subst hE
      have hm' : ¬ (m0 : Int) = 1 := by omega
      have r0 := HR.out.cell (j := 0) rfl
      have rf := HR.out.free 0
      by_cases hm0 : m0 = 0
      · have hl' : l = true := by rw [hl, hm0]; rfl
        subst hm0 hl'
        clear hl
        by_cases hn0 : n0 = 0
        · subst hn0
          have HBA : Hid (layT t' = []) := by
            show _ = _
            rw [layT, if_pos]
            exact decide_eq_true (by have h1 := HN0.out; have h2 := HM0.out; omega)
          have HFB : Hid (Below w.heap.size w (wr.setCell ⟨w.heap.size + 1, 0, none⟩ (.slice none 0 0))) := ⟨HB.out.os, HB.out.tape, HB.out.output, by simp [World.setCell]; exact HB.out.size, fun i hi => (Below.heap_setCell _ _ _ _ (show i ≠ w.heap.size + 1 by omega)).trans (HB.out.block i hi)⟩
          have d1 := (HR.out.set 0 (.slice none 0 0)).cell (j := 0) rfl
          go_wp2
          refine bodyPost_ret (v := .agg #[.slice none 0 0]) ?_ rfl ?_
          · refine results_tree1 rfl _ _ _ rfl ?_
            exact d1
          · rw [HBA.out]; exact ⟨_, _, _, rfl, NewK.nil _ _, HFB.out⟩
        · have hn1 : ¬ (n0 : Int) = 0 := by omega
          have HFU : Hid (t'.full true = true) := by
            rcases HF.out with h | h
            · exact h
            · exfalso
              have h1 := HN0.out
              have h2 := HM0.out
              rw [h] at h1 h2
              simp [bareT, T.ps, T.ks] at h1 h2
              omega
          have HBA : Hid (layT t' = lay 0 t') := by
            show _ = _
            rw [layT, if_neg]
            rw [show t'.bare = false from decide_eq_false (by have h1 := HN0.out; have h2 := HM0.out; omega)]; simp
          go_wp2_with fail
          refine (specLay_any t' (fun y => y < w.heap.size) true a0 b0 n0 c0 0 d0 wr (fun _ => False) none 0 0 [] true HSB.out (fun y _ => by simp [Value.ownBlock]) (no_nil wr) (by have := HZ.out; simpa using this) HFU.out).mono ?_
          rintro e w2 ⟨v2, rfl, hN2, ho2, hv2⟩
          have hb2 : Below wr.heap.size wr w2 := ho2.below (Nat.le_refl _) (fun b _ h => by cases h)
          obtain ⟨a2, n2, c2, e2, -⟩ := hN2.shape
          subst e2
          simp only [List.nil_append, List.length_nil] at hN2
          have HR2 := hid (HR.out.below hb2)
          have HB2 := hid (Below.then' HB.out hb2 (Nat.le_refl _))
          have hwr : w.heap.size + 1 < wr.heap.size := HR.out.lt
          have HFB : Hid (Below w.heap.size w (w2.setCell ⟨w.heap.size + 1, 0, none⟩ (.slice a2 n2 c2))) := ⟨HB2.out.os, HB2.out.tape, HB2.out.output, by simp [World.setCell]; exact HB2.out.size, fun i hi => (Below.heap_setCell _ _ _ _ (show i ≠ w.heap.size + 1 by omega)).trans (HB2.out.block i hi)⟩
          have HNN : Hid (NewK w (w2.setCell ⟨w.heap.size + 1, 0, none⟩ (.slice a2 n2 c2)) (.slice a2 n2 c2) (layT t')) := by
            show NewK _ _ _ _
            rw [HBA.out]
            have hzz : (w2.setCell ⟨w.heap.size + 1, 0, none⟩ (.slice a2 n2 c2)).heap.size = w2.heap.size := by simp [World.setCell]
            have hlt := hN2.lt
            obtain ⟨V, n1, n2', n3, n4, n5⟩ := hN2
            have hn : NrK w2 (fun y => wr.heap.size ≤ y) (.slice a2 n2 c2) (lay 0 t') := by
              refine ⟨V, n1, ⟨n2', fun y hy => ?_⟩, fun i hi => (n3 i hi).mono (fun y hy _ => ?_), n5, fun i hi y hy => (n4 y ((n3 i hi).2.2.2 y hy)).2⟩
              · rcases hv2 y hy with h | h
                · cases h
                · exact h
              · rcases hy with h | h
                · exact h.elim
                · exact h.1
            refine (hn.to (only_set (R := fun y => y = w.heap.size + 1) rfl _) (fun y hy _ e => by omega)).mono (fun y hy hl => ⟨by omega, hl⟩)
          have e0 := HR2.out.cell (j := 0) rfl
          have e1 := HR2.out.free 0
          have d1 := (HR2.out.set 0 (.slice a2 n2 c2)).cell (j := 0) rfl
          clear hN2 ho2 hv2 hb2 r0 rf
          go_wp2
          refine bodyPost_ret (v := .agg #[.slice a2 n2 c2]) ?_ rfl ?_
          · refine results_tree1 rfl _ _ _ rfl ?_
            exact d1
          · exact ⟨_, _, _, rfl, HNN.out, HFB.out⟩
      · have hl' : l = false := by rw [hl]; exact decide_eq_false hm0
        subst hl'
        clear hl
        have HFU : Hid (t'.full true = true) := by
          rcases HF.out with h | h
          · exact h
          · exfalso
            have h1 := HN0.out
            have h2 := HM0.out
            rw [h] at h1 h2
            simp [bareT, T.ps, T.ks] at h1 h2
            omega
        have HBA : Hid (layT t' = lay 0 t') := by
          show _ = _
          rw [layT, if_neg]
          rw [show t'.bare = false from decide_eq_false (by have h1 := HN0.out; have h2 := HM0.out; omega)]; simp
        go_wp2_with fail
        refine (specLay_any t' (fun y => y < w.heap.size) false a0 b0 n0 c0 m0 d0 wr (fun _ => False) none 0 0 [] true HSB.out (fun y _ => by simp [Value.ownBlock]) (no_nil wr) (by have := HZ.out; simpa using this) HFU.out).mono ?_
        rintro e w2 ⟨v2, rfl, hN2, ho2, hv2⟩
        have hb2 : Below wr.heap.size wr w2 := ho2.below (Nat.le_refl _) (fun b _ h => by cases h)
        obtain ⟨a2, n2, c2, e2, -⟩ := hN2.shape
        subst e2
        simp only [List.nil_append, List.length_nil] at hN2
        have HR2 := hid (HR.out.below hb2)
        have HB2 := hid (Below.then' HB.out hb2 (Nat.le_refl _))
        have hwr : w.heap.size + 1 < wr.heap.size := HR.out.lt
        have HFB : Hid (Below w.heap.size w (w2.setCell ⟨w.heap.size + 1, 0, none⟩ (.slice a2 n2 c2))) := ⟨HB2.out.os, HB2.out.tape, HB2.out.output, by simp [World.setCell]; exact HB2.out.size, fun i hi => (Below.heap_setCell _ _ _ _ (show i ≠ w.heap.size + 1 by omega)).trans (HB2.out.block i hi)⟩
        have HNN : Hid (NewK w (w2.setCell ⟨w.heap.size + 1, 0, none⟩ (.slice a2 n2 c2)) (.slice a2 n2 c2) (layT t')) := by
          show NewK _ _ _ _
          rw [HBA.out]
          have hzz : (w2.setCell ⟨w.heap.size + 1, 0, none⟩ (.slice a2 n2 c2)).heap.size = w2.heap.size := by simp [World.setCell]
          have hlt := hN2.lt
          obtain ⟨V, n1, n2', n3, n4, n5⟩ := hN2
          have hn : NrK w2 (fun y => wr.heap.size ≤ y) (.slice a2 n2 c2) (lay 0 t') := by
            refine ⟨V, n1, ⟨n2', fun y hy => ?_⟩, fun i hi => (n3 i hi).mono (fun y hy _ => ?_), n5, fun i hi y hy => (n4 y ((n3 i hi).2.2.2 y hy)).2⟩
            · rcases hv2 y hy with h | h
              · cases h
              · exact h
            · rcases hy with h | h
              · exact h.elim
              · exact h.1
          refine (hn.to (only_set (R := fun y => y = w.heap.size + 1) rfl _) (fun y hy _ e => by omega)).mono (fun y hy hl => ⟨by omega, hl⟩)
        have e0 := HR2.out.cell (j := 0) rfl
        have e1 := HR2.out.free 0
        have d1 := (HR2.out.set 0 (.slice a2 n2 c2)).cell (j := 0) rfl
        clear hN2 ho2 hv2 hb2 r0 rf
        go_wp2
        refine bodyPost_ret (v := .agg #[.slice a2 n2 c2]) ?_ rfl ?_
        · refine results_tree1 rfl _ _ _ rfl ?_
          exact d1
        · exact ⟨_, _, _, rfl, HNN.out, HFB.out⟩
theorem strip1_two (x : T × T) : strip1 (.mk [] (two x)) = rootT x := by
  unfold strip1 rootT two
  cases h : x.2.bare with
  | true => simp [T.ks, tAt]
  | false => simp [T.ks]
theorem two_all (x : T × T) : (T.mk [] (two x)).all = (rootT x).all := by
  have : (T.mk [] (two x)).all = allL (two x) := by simp [T.all]
  rw [this]
  unfold rootT two
  cases h : x.2.bare with
  | true => simp [allL]
  | false => simp [allL, T.all]
theorem full_ks1 {t : T} {r : Bool} (h : t.full r = true) : t.ks.length ≠ 1 := by
  obtain ⟨ps, ks⟩ := t
  simp only [T.ks]
  by_cases hk : ks = []
  · subst hk; simp
  · obtain ⟨h1, _⟩ := full_br h hk; omega
def STPost (o : Option (List NB)) (w : World) (e : Ending) (w' : World) : Prop := ∃ a n c, e = .returned (.tuple #[.agg #[.slice a n c], .bool o.isSome]) ∧ NewK w w' (.slice a n c) (o.getD []) ∧ Below w.heap.size w w'
set_option maxHeartbeats 2000000 in
set_option maxRecDepth 20000 in
theorem specTreePut_any (ns : List NB) (hlen : ns.length ≤ 1048576) (hsm : smallN ns) (S : Nat → Prop) (an : Option Addr) (nn cn : Nat) (k v : ByteArray) (w : World) (hN : Nr w S (.slice an nn cn) ns) :
    Calls Try.prog 22 #[.agg #[.slice an nn cn], .string k, .string v] w fun e w' => STPost (putV ns k v) w e w' := by
  have h1 := hN.len.2.1
  have h2 := hN.len.2.2
  have HB0 : Hid (Below w.heap.size w ((w.alloc (.cells #[.slice an nn cn] 29)).alloc (.cells #[.slice none 0 0] 29))) := below_new (below_new (Below.refl _ _))
  have K0 : Hid (Bk ((w.alloc (.cells #[.slice an nn cn] 29)).alloc (.cells #[.slice none 0 0] 29)) (w.heap.size + 1) 29 [.slice none 0 0]) := by
    have := Bk.new (w.alloc (.cells #[.slice an nn cn] 29)) 29 [.slice none 0 0]
    show Bk _ _ _ _
    simpa using this
  have KA : Hid (Bk ((w.alloc (.cells #[.slice an nn cn] 29)).alloc (.cells #[.slice none 0 0] 29)) w.heap.size 29 [.slice an nn cn]) := (Bk.new w 29 [.slice an nn cn]).alloc _
  have a0 := KA.out.cell (j := 0) rfl
  have H0 := hid (hN.below HB0.out)
  have HLS := hid (And.intro hlen hsm)
  clear hN hlen hsm
  go_enter Try.func22, Try.ntmps22
  go_wp2_with fail
  refine (specTreeOk_any ns HLS.out.1 HLS.out.2 S an nn cn _ H0.out).mono ?_
  generalize (w.alloc (.cells #[.slice an nn cn] 29)).alloc (.cells #[.slice none 0 0] 29) = U at *
  rintro e w1 ⟨rfl, hb⟩
  have HB1 := hid (HB0.out.trans (hb.mono HB0.out.size))
  have K1 := hid (K0.out.below hb)
  have KA1 := hid (KA.out.below hb)
  have H1 := hid (H0.out.below hb)
  clear hb HB0 K0 H0 KA a0
  have HNO : Hid (∀ (X : World) (u : Value), Below w.heap.size w X → Below w.heap.size w (X.setCell ⟨w.heap.size + 1, 0, none⟩ u)) := fun X u hb => ⟨hb.os, hb.tape, hb.output, by simp [World.setCell]; exact hb.size, fun i hi => (Below.heap_setCell _ _ _ _ (show i ≠ w.heap.size + 1 by omega)).trans (hb.block i hi)⟩
  rw [spOk_eq]
  have c0 := K1.out.cell (j := 0) rfl
  have f0 := K1.out.free 0
  have d0 := (K1.out.set 0 (.slice none 0 0)).cell (j := 0) rfl
  cases hr : okT ns with
  | none =>
    have HR : Hid (putV ns k v = none) := by show _ = _; rw [putV, hr]
    clear hr
    go_wp2
    refine bodyPost_ret (v := .tuple #[.agg #[.slice none 0 0], .bool false]) ?_ rfl ?_
    · refine results_tree2 rfl _ _ _ rfl rfl ?_
      exact d0
    · rw [HR.out]; exact ⟨_, _, _, rfl, NewK.nil _ _, HNO.out _ _ HB1.out⟩
  | some t =>
    have HR : Hid (putV ns k v = if kOk k = true ∧ vOk v = true then (if 200 < (rootT (putF t.lv t (k, v))).all.length then none else some (layT (rootT (putF t.lv t (k, v))))) else none) := by show _ = _; rw [putV, hr]
    cases hk : kOk k with
    | false =>
      have HR2 : Hid (putV ns k v = none) := by show _ = _; rw [HR.out, hk]; simp
      have HKO := hid (specKeyOk_is k false hk)
      clear hk HR hr
      go_wp2_with fail
      refine (HKO.out w1).mono ?_
      rintro e w2 ⟨rfl, rfl⟩
      go_wp2
      refine bodyPost_ret (v := .tuple #[.agg #[.slice none 0 0], .bool false]) ?_ rfl ?_
      · refine results_tree2 rfl _ _ _ rfl rfl ?_
        exact d0
      · rw [HR2.out]; exact ⟨_, _, _, rfl, NewK.nil _ _, HNO.out _ _ HB1.out⟩
    | true =>
      have HKO := hid (specKeyOk_is k true hk)
      cases hv : vOk v with
      | false =>
        have HR2 : Hid (putV ns k v = none) := by show _ = _; rw [HR.out, hv]; simp
        have HVO := hid (specValOk_any v)
        rw [hv] at HVO
        clear hk hv HR hr
        go_wp2_with fail
        refine (HKO.out w1).mono ?_
        rintro e w2 ⟨rfl, rfl⟩
        go_wp2_with fail
        refine (HVO.out w2).mono ?_
        rintro e w3 ⟨rfl, rfl⟩
        go_wp2
        refine bodyPost_ret (v := .tuple #[.agg #[.slice none 0 0], .bool false]) ?_ rfl ?_
        · refine results_tree2 rfl _ _ _ rfl rfl ?_
          exact d0
        · rw [HR2.out]; exact ⟨_, _, _, rfl, NewK.nil _ _, HNO.out _ _ HB1.out⟩
      | true =>
        have HR2 : Hid (putV ns k v = if 200 < (rootT (putF t.lv t (k, v))).all.length then none else some (layT (rootT (putF t.lv t (k, v))))) := by show _ = _; rw [HR.out, hk, hv]; simp
        have HVO := hid (specValOk_any v)
        rw [hv] at HVO
        have HOK := hid (okT_facts hr)
        have HG := hid (okT_putIn hr)
        have HRO := hid (rootT_ok hr (k, v))
        have HSZ := hid (putV_size hr (k, v))
        have HPS : Hid (putS t.lv t (k, v) = two (putF t.lv t (k, v))) := putS_eq t.lv true t (k, v) HG.out
        clear hk hv HR hr
        have g0 := KA1.out.cell (j := 0) rfl
        go_wp2_with fail
        refine (HKO.out w1).mono ?_
        rintro e w2 ⟨rfl, rfl⟩
        go_wp2_with fail
        refine (HVO.out w2).mono ?_
        rintro e w3 ⟨rfl, rfl⟩
        clear HKO HVO c0 f0 d0
        go_wp2_with fail
        refine (specRoot_any ns HLS.out.1 HLS.out.2 S an nn cn w2 H1.out).mono ?_
        rintro e w3 ⟨hpost, hb⟩
        rw [HOK.out.root] at hpost
        obtain ⟨lf, ap, np, cp, ak, nk, ck, rfl, hs⟩ := hpost
        have HS3 := hid hs
        have HB3 := hid (Below.then' HB1.out hb (Nat.le_refl _))
        have K3 := hid (K1.out.below hb)
        clear hs hb K1 KA1 g0 HB1 H1
        have HB4 := hid (below_new (o := .cells #[.bool lf, .slice ap np cp, .slice ak nk ck] 55) (w := w3) (Below.refl _ _))
        have KS := hid (Bk.new w3 55 [.bool lf, .slice ap np cp, .slice ak nk ck])
        have k0 := KS.out.cell (j := 0) rfl
        have k1 := KS.out.cell (j := 1) rfl
        have k2 := KS.out.cell (j := 2) rfl
        go_wp2_with fail
        refine (specPut_any t.lv true _ lf ap ak np cp nk ck t k v _ (HS3.out.kept HB4.out) HG.out).mono ?_
        rintro e w5 ⟨v5, rfl, hR5, hb5⟩
        rw [HPS.out] at hR5
        obtain ⟨a5, n5, c5, e5, -⟩ := hR5.shape
        subst e5
        have HR5 : Hid (SubR w5 (fun _ => True) (.slice a5 n5 c5) (two (putF t.lv t (k, v)))) := hR5.mono (fun _ _ _ => trivial)
        have HB5 := hid (Below.then' (Below.then' HB3.out HB4.out (Nat.le_refl _)) hb5 (Nat.le_refl _))
        have K5 := hid ((K3.out.below HB4.out).below hb5)
        clear hR5 hb5 k0 k1 k2 KS HB4 HB3 K3 HS3
        generalize putF t.lv t (k, v) = rr at *
        have HST := hid (strip1_two rr)
        have HAL := hid (two_all rr)
        have HNE : Hid (two rr ≠ []) := fun e => by have := (two_len rr).1; rw [e] at this; simp at this
        have HB6 := hid (below_new (o := .cells #[.bool false, .slice none 0 0, .slice a5 n5 c5] 55) (w := w5) (Below.refl _ _))
        have KS := hid (Bk.new w5 55 [.bool false, .slice none 0 0, .slice a5 n5 c5])
        have HS6 := hid ((HR5.out.kept HB6.out).sub HNE.out)
        have HBW := hid (Below.then' HB5.out HB6.out (Nat.le_refl _))
        have K6 := hid (K5.out.below HB6.out)
        have k0 := KS.out.cell (j := 0) rfl
        have k1 := KS.out.cell (j := 1) rfl
        have k2 := KS.out.cell (j := 2) rfl
        go_wp2_with fail
        refine (specPairs_any (.mk [] (two rr)) _ false none a5 0 0 n5 c5 _ HS6.out (by rw [HAL.out]; have := HSZ.out.1; omega)).mono ?_
        generalize w5.alloc (.cells #[.bool false, .slice none 0 0, .slice a5 n5 c5] 55) = X at *
        rintro e w7 ⟨v7, rfl, hO, hb⟩
        rw [HAL.out] at hO
        obtain ⟨a7, n7, c7, e7, hn7⟩ := hO.shape'
        subst e7
        have HN7 := hid hn7.out
        have hn5 : n7 ≤ 201 := by have := HN7.out; have := HSZ.out.1; omega
        have HB7 := hid (Below.then' HBW.out hb (Nat.le_refl _))
        have K7 := hid (K6.out.below hb)
        have KS7 := hid (KS.out.below hb)
        have HS7 := hid (HS6.out.kept hb)
        clear hO hb hn7 k0 k1 k2 KS K6 HS6 HBW HB6 HB5 K5 HR5
        have c0 := K7.out.cell (j := 0) rfl
        have f0 := K7.out.free 0
        have d0 := (K7.out.set 0 (.slice none 0 0)).cell (j := 0) rfl
        have k0 := KS7.out.cell (j := 0) rfl
        have k1 := KS7.out.cell (j := 1) rfl
        have k2 := KS7.out.cell (j := 2) rfl
        by_cases hlen : 200 < n7
        · have hlen' : (200 : Int) < (n7 : Int) := by omega
          have HR3 : Hid (putV ns k v = none) := by
            show _ = _
            rw [HR2.out, if_pos]
            have := HN7.out; omega
          go_wp2
          refine bodyPost_ret (v := .tuple #[.agg #[.slice none 0 0], .bool false]) ?_ rfl ?_
          · refine results_tree2 rfl _ _ _ rfl rfl ?_
            exact d0
          · rw [HR3.out]; exact ⟨_, _, _, rfl, NewK.nil _ _, HNO.out _ _ HB7.out⟩
        · have hlen' : ¬ (200 : Int) < (n7 : Int) := by omega
          have HR3 : Hid (putV ns k v = some (layT (rootT rr))) := by
            show _ = _
            rw [HR2.out, if_neg]
            have := HN7.out; omega
          clear d0
          go_wp2_with fail
          refine (specTree_any _ false none a5 0 0 n5 c5 (.mk [] (two rr)) w7 HS7.out (by rw [HST.out]; exact full_ks1 HRO.out.1) (by rw [HST.out]; exact .inl HRO.out.1) (by rw [HST.out]; have := HSZ.out.2.1; omega)).mono ?_
          rintro e w8 ⟨a8, n8, c8, rfl, hN8, hb8⟩
          rw [HST.out] at hN8
          have K8 := hid (K7.out.below hb8)
          have HB8 := hid (Below.then' HB7.out hb8 (Nat.le_refl _))
          have hwx : w.heap.size + 1 < w7.heap.size := K7.out.lt
          have HNN : Hid (NewK w (w8.setCell ⟨w.heap.size + 1, 0, none⟩ (.slice a8 n8 c8)) (.slice a8 n8 c8) (layT (rootT rr))) := (NrK.to hN8 (only_set (R := fun y => y = w.heap.size + 1) rfl _) (fun y hy _ e => by have := hy.1; omega)).mono (fun y hy hl => ⟨by have := hy.1; omega, hl⟩)
          have e0 := K8.out.cell (j := 0) rfl
          have e1 := K8.out.free 0
          have d1 := (K8.out.set 0 (.slice a8 n8 c8)).cell (j := 0) rfl
          clear hN8 hb8 c0 f0
          go_wp2
          refine bodyPost_ret (v := .tuple #[.agg #[.slice a8 n8 c8], .bool true]) ?_ rfl ?_
          · refine results_tree2 rfl _ _ _ rfl rfl ?_
            exact d1
          · rw [HR3.out]; exact ⟨_, _, _, rfl, HNN.out, HNO.out _ _ HB8.out⟩
theorem layT_small {t : T} (h : t.full true = true ∨ t = bareT) (hz : t.size ≤ 1000) : smallK (layT t) ∧ (layT t).length ≤ 100000 := by
  unfold layT
  split
  · exact ⟨fun i hi => by simp at hi, by simp⟩
  · rename_i hb
    rcases h with h | h
    · exact ⟨smallK_of (lay_small t true 0 h), by rw [lay_length]; omega⟩
    · rw [h] at hb; exact absurd rfl hb
theorem putV_small (ns : List NB) (k v : ByteArray) : smallK ((putV ns k v).getD []) ∧ ((putV ns k v).getD []).length ≤ 100000 := by
  have h0 : smallK (([] : List NB)) ∧ ([] : List NB).length ≤ 100000 := ⟨fun i hi => by simp at hi, by simp⟩
  unfold putV
  split
  · exact h0
  · rename_i t h
    split
    · split
      · exact h0
      · exact layT_small (.inl (rootT_ok h (k, v)).1) (by have := (putV_size h (k, v)).2.1; omega)
    · exact h0
end Go.Proofs.Ytjplocdjbfpcgab
/-
  l03Drop and TreeDrop of the specification.
-/
namespace Go.Proofs.Ytjplocdjbfpcgab
open Go.RowKit
theorem results_sub1 {fn : Func} {p : Tmp} (h : fn.results = #[.cell p 55]) (tmps : Array Value) (w : World) (g : Nat) {x y z : Value} (hp : tmps.getD p undef = .pointer (some ⟨g, 0, none⟩)) (c0 : w.cell? ⟨g, 0, none⟩ = some x) (c1 : w.cell? ⟨g, 1, none⟩ = some y) (c2 : w.cell? ⟨g, 2, none⟩ = some z) : (results fn tmps).run Try.prog w = .ok (.agg #[x, y, z]) w := by
  have hp' : tmps[p]?.getD undef = .pointer (some ⟨g, 0, none⟩) := by simpa using hp
  simp [results, h, hp', asAddr, load_sub c0 c1 c2]
def DropPost (w : World) (S : Nat → Prop) (t : T) (e : Ending) (w' : World) : Prop := ∃ lf ap np cp ak nk ck, e = .returned (.agg #[.bool lf, .slice ap np cp, .slice ak nk ck]) ∧ Sub w' (fun y => S y ∨ w.heap.size ≤ y) lf (.slice ap np cp) (.slice ak nk ck) t ∧ Below w.heap.size w w'
/-- What is kept: the sub, the cells of the answer. -/
structure DrI (w wr : World) (lf : Bool) (pv kv : Value) : Prop where
  s : Bk wr w.heap.size 55 [.bool lf, pv, kv]
  r : Bk wr (w.heap.size + 1) 55 [.bool false, .slice none 0 0, .slice none 0 0]
  b : Below w.heap.size w wr
  z : w.heap.size + 2 ≤ wr.heap.size
theorem DrI.keep {w wr w1 : World} {lf : Bool} {pv kv : Value} (h : DrI w wr lf pv kv) (hb : Below wr.heap.size wr w1) : DrI w w1 lf pv kv := ⟨h.s.below hb, h.r.below hb, Below.then' h.b hb (Nat.le_refl _), Nat.le_trans h.z hb.size⟩
theorem DrI.only {w u w2 : World} {lf : Bool} {pv kv : Value} {R : Nat → Prop} (h : DrI w u lf pv kv) (hon : Only R u w2) (ho : ∀ x, R x → w.heap.size + 2 ≤ x) : DrI w w2 lf pv kv :=
  ⟨h.s.to hon (fun e => by have := ho _ e; omega), h.r.to hon (fun e => by have := ho _ e; omega), h.b.trans (hon.below h.b.size (fun b hb e => by have := ho _ e; omega)), Nat.le_trans h.z hon.size⟩
theorem DrI.grow {w u w2 : World} {lf : Bool} {pv kv : Value} {o : Option Nat} (h : DrI w u lf pv kv) (hg : u.grownBy w2 o) (ho : ∀ x, o = some x → w.heap.size + 2 ≤ x) : DrI w w2 lf pv kv := h.only (only_of_grown hg (R := fun y => o = some y) (fun _ e => e)) (fun x e => ho x e)
theorem dri_start (w : World) (lf : Bool) (pv kv : Value) : DrI w ((w.alloc (.cells #[.bool lf, pv, kv] 55)).alloc (.cells #[.bool false, .slice none 0 0, .slice none 0 0] 55)) lf pv kv := by
  refine ⟨(Bk.new w 55 [.bool lf, pv, kv]).alloc _, ?_, below_new (below_new (Below.refl _ _)), by simp⟩
  have := Bk.new (w.alloc (.cells #[.bool lf, pv, kv] 55)) 55 [.bool false, .slice none 0 0, .slice none 0 0]
  simpa using this
/-- The answer is stored. -/
theorem DrI.done {w wr : World} {lf lf' : Bool} {pv kv pv' kv' : Value} {S : Nat → Prop} {t : T} (h : DrI w wr lf pv kv) (hs : Sub wr (fun y => S y ∨ w.heap.size + 2 ≤ y) lf' pv' kv' t) (hS : ∀ y, S y → y < w.heap.size) :
    Sub (((wr.setCell ⟨w.heap.size + 1, 0, none⟩ (.bool lf')).setCell ⟨w.heap.size + 1, 1, none⟩ pv').setCell ⟨w.heap.size + 1, 2, none⟩ kv') (fun y => S y ∨ w.heap.size ≤ y) lf' pv' kv' t ∧ Below w.heap.size w (((wr.setCell ⟨w.heap.size + 1, 0, none⟩ (.bool lf')).setCell ⟨w.heap.size + 1, 1, none⟩ pv').setCell ⟨w.heap.size + 1, 2, none⟩ kv') ∧
      Bk (((wr.setCell ⟨w.heap.size + 1, 0, none⟩ (.bool lf')).setCell ⟨w.heap.size + 1, 1, none⟩ pv').setCell ⟨w.heap.size + 1, 2, none⟩ kv') (w.heap.size + 1) 55 [.bool lf', pv', kv'] := by
  have hon : Only (fun y => y = w.heap.size + 1) wr (((wr.setCell ⟨w.heap.size + 1, 0, none⟩ (.bool lf')).setCell ⟨w.heap.size + 1, 1, none⟩ pv').setCell ⟨w.heap.size + 1, 2, none⟩ kv') := ((only_set (R := fun y => y = w.heap.size + 1) rfl _).trans (only_set (R := fun y => y = w.heap.size + 1) rfl _)).trans (only_set (R := fun y => y = w.heap.size + 1) rfl _)
  refine ⟨(hs.to hon (fun y hy _ e => ?_)).mono (fun y hy _ => hy.imp id (fun h => by omega)), h.b.trans (hon.below h.b.size (fun b hb e => by omega)), ((h.r.set 0 _).set 1 _).set 2 _⟩
  rcases hy with hy | hy
  · have := hS y hy; omega
  · omega
theorem row_setB {w : World} {base : Nat} {E : TypeId} {s g n c m : Nat} {xs : List Value} (h : w.ownsRow base E s (.slice (some ⟨g, 0, none⟩) n c) m xs) (j : Nat) (u : Value) : (w.setCell ⟨g, j, none⟩ u).ownsRow base E s (.slice (some ⟨g, 0, none⟩) n c) m (xs.set j u) := by
  obtain ⟨k1, k2⟩ := h
  rcases k2 with ⟨k2, _⟩ | ⟨g', cap, cur, e, k3, k4, k5, k6, k7, k8⟩
  · cases k2
  · cases e
    refine ⟨by simpa using k1, .inr ⟨g, c, cur.setIfInBounds j u, rfl, k3, ?_, k5, k6, by simpa using k7, ?_⟩⟩
    · simp [World.setCell, Array.getElem?_modify, k4]
    · rw [← k8]
      simp only [Array.toList_setIfInBounds, List.take_set]
theorem mkV_set (L : Nat → Bool) (P K : Nat → Value) (n q : Nat) (l : Bool) (p k : Value) : (mkV L P K n).set q (.bool l, p, k) = mkV (fun i => if i = q then l else L i) (fun i => if i = q then p else P i) (fun i => if i = q then k else K i) n := by
  apply List.ext_getElem
  · simp [mkV]
  · intro i h1 h2
    rw [List.getElem_set]
    by_cases e : q = i
    · subst e; simp [mkV]
    · rw [if_neg e]; simp [mkV, Ne.symm e]
/-- One sub of the row is stored anew. -/
theorem SO.set {w : World} {base g n c q : Nat} {S S' : Nat → Prop} {ts : List T} {lf : Bool} {pv kv : Value} {t : T} (h : SO w base S (.slice (some ⟨g, 0, none⟩) n c) ts) (hq : q < ts.length) (hs : Sub w S' lf pv kv t) (hg : ∀ y, S' y → y ≠ g) :
    SO (((w.setCell ⟨g, q * 3, none⟩ (.bool lf)).setCell ⟨g, q * 3 + 1, none⟩ pv).setCell ⟨g, q * 3 + 2, none⟩ kv) base (fun y => S y ∨ S' y) (.slice (some ⟨g, 0, none⟩) n c) (ts.set q t) := by
  obtain ⟨L, P, K, h1, h2, h3⟩ := h
  have hon : Only (fun y => y = g) w (((w.setCell ⟨g, q * 3, none⟩ (.bool lf)).setCell ⟨g, q * 3 + 1, none⟩ pv).setCell ⟨g, q * 3 + 2, none⟩ kv) := ((only_set (R := fun y => y = g) rfl _).trans (only_set (R := fun y => y = g) rfl _)).trans (only_set (R := fun y => y = g) rfl _)
  have hS : ∀ y, S y → y ≠ g := fun y hy e => h3 y hy (by rw [e]; rfl)
  refine ⟨fun i => if i = q then lf else L i, fun i => if i = q then pv else P i, fun i => if i = q then kv else K i, ?_, fun i hi => ?_, fun y hy e => ?_⟩
  · rw [List.length_set, ← mkV_set, ncs_set _ _ _ (by rw [mkV_length]; exact hq)]
    exact row_setB (row_setB (row_setB h1 _ _) _ _) _ _
  · rw [List.length_set] at hi
    by_cases e : i = q
    · subst e
      simp only [if_true]
      rw [show tAt (ts.set i t) i = t by simp [tAt, hi]]
      exact (hs.to hon (fun y hy _ => hg y hy)).mono (fun y hy _ => .inr hy)
    · simp only [e, if_false]
      rw [show tAt (ts.set q t) i = tAt ts i by simp [tAt, Ne.symm e]]
      exact ((h2 i hi).to hon (fun y hy _ => hS y hy)).mono (fun y hy _ => .inl hy)
  · have e' : g = y := by simpa [Value.ownBlock] using e
    rcases hy with hy | hy
    · exact hS y hy e'.symm
    · exact hg y hy e'.symm
/-- What is read of a row of subs. -/
theorem SO.at {w : World} {base : Nat} {S : Nat → Prop} {a : Option Addr} {n c : Nat} {ts : List T} (h : SO w base S (.slice a n c) ts) (hp : 0 < ts.length) : ∃ g, a = some ⟨g, 0, none⟩ ∧ (∀ o, w.frozen? ⟨g, o, none⟩ = false) ∧ ∀ i, i < ts.length → ∃ l ap np cp ak nk ck,
    w.cell? ⟨g, i * 3, none⟩ = some (.bool l) ∧ w.cell? ⟨g, i * 3 + 1, none⟩ = some (.slice ap np cp) ∧ w.cell? ⟨g, i * 3 + 2, none⟩ = some (.slice ak nk ck) ∧ Sub w S l (.slice ap np cp) (.slice ak nk ck) (tAt ts i) := by
  obtain ⟨L, P, K, h1, h2, h3⟩ := h
  rcases h1.2 with ⟨_, h0⟩ | ⟨g, cap, cur, e, _, k4, _⟩
  · omega
  cases e
  refine ⟨g, rfl, fun o => by simp [World.frozen?, k4], fun i hi => ?_⟩
  have hc := World.ownsRow.cells h1 (g := g) rfl
  obtain ⟨c0, c1, c2⟩ := ncs_at (mkV L P K ts.length) i (by rw [mkV_length]; exact hi)
  rw [mkV_at _ _ _ _ _ hi] at c0 c1 c2
  have d0 := hc _ _ c0
  have d1 := hc _ _ c1
  have d2 := hc _ _ c2
  rw [Addr.add_lit, Nat.zero_add] at d0 d1 d2
  have hs := h2 i hi
  obtain ⟨ap, np, cp, ak, nk, ck, e1, e2, _⟩ := hs.shape
  simp only at d1 d2
  rw [e1] at d1 hs
  rw [e2] at d2 hs
  exact ⟨L i, ap, np, cp, ak, nk, ck, d0, d1, d2, hs⟩
theorem ev_leaf {h : Nat} {a b : T} (ha : Ev h a) (hb : Ev h b) : a.ks = [] ↔ b.ks = [] := by
  obtain ⟨pa, ka⟩ := a
  obtain ⟨pb, kb⟩ := b
  cases h with
  | zero => exact ha.elim
  | succ h =>
    rcases ha with ⟨rfl, rfl⟩ | ⟨h1, h2⟩
    · rcases hb with ⟨rfl, _⟩ | ⟨h3, h4⟩
      · exact ⟨fun _ => rfl, fun _ => rfl⟩
      · obtain ⟨x, hx⟩ := List.exists_mem_of_ne_nil kb h3
        exact (h4 x hx).elim
    · rcases hb with ⟨rfl, rfl⟩ | ⟨h3, h4⟩
      · obtain ⟨x, hx⟩ := List.exists_mem_of_ne_nil ka h1
        exact (h2 x hx).elim
      · exact ⟨fun e => absurd e h1, fun e => absurd e h3⟩
theorem delS_cons (x : PB) (l : List PB) (k : ByteArray) : delS (x :: l) k = (if x.1 = k then [] else [x]) ++ delS l k := by
  unfold delS
  rw [List.filter_cons]
  by_cases e : x.1 = k <;> simp [e]
set_option maxHeartbeats 2000000 in
set_option maxRecDepth 20000 in
theorem specDrop_leaf (S : Nat → Prop) (ap ak : Option Addr) (np cp ck : Nat) (t : T) (k : ByteArray) (w : World) (h : Sub w S true (.slice ap np cp) (.slice ak 0 ck) t) (hs : t.ps.length ≤ 4) :
    Calls Try.prog 56 #[.agg #[.bool true, .slice ap np cp, .slice ak 0 ck], .string k] w fun e w' => DropPost w S (.mk (delS t.ps k) []) e w' := by
  obtain ⟨_, _, _, _, _, _, e1, e2, HNP, HNK, b1, b2, -, hP⟩ := h.shape
  cases e1
  cases e2
  have hnp : np ≤ 4 := by rw [HNP.out]; exact hs
  have HP := hid hP
  have HI0 := hid (dri_start w true (.slice ap np cp) (.slice ak 0 ck))
  have c0 := HI0.out.s.cell (j := 0) rfl
  have HIb := hid (HI0.out.keep (below_new (o := .cells #[] 75) (Below.refl _ _)))
  have c1 := HIb.out.s.cell (j := 1) rfl
  have HO0 : Hid (Ow (((w.alloc (.cells #[.bool true, .slice ap np cp, .slice ak 0 ck] 55)).alloc (.cells #[.bool false, .slice none 0 0, .slice none 0 0] 55)).alloc (.cells #[] 75)) (w.heap.size + 2) (.slice (some ⟨w.heap.size + 2, 0, none⟩) 0 0) []) := by
    have := ow_new ((w.alloc (.cells #[.bool true, .slice ap np cp, .slice ak 0 ck] 55)).alloc (.cells #[.bool false, .slice none 0 0, .slice none 0 0] 55)) (w.heap.size + 2) (by simp)
    show Ow _ _ _ _
    simpa using this
  clear h hs b1 b2 hP
  go_enter Try.func56, Try.ntmps56
  go_wp2_with fail
  go_loopw [5, 17] (fun x z wr => ∃ (i : Nat) (a : Option Addr) (n c : Nat) (l : List PB), i ≤ np ∧ x = .slice a n c ∧ z = .int .i64 (i : Int) ∧ Hid (DrI w wr true (.slice ap np cp) (.slice ak 0 ck)) ∧ Hid (Ow wr (w.heap.size + 2) (.slice a n c) l) ∧ Hid (l ++ delS (t.ps.drop i) k = delS t.ps k) ∧ Hid (l.length ≤ i)) (fun _ z _ => np - (intOf z).toNat)
  case atStart => exact ⟨0, _, _, _, [], Nat.zero_le _, rfl, rfl, HIb.out, by have := HO0.out; show Ow _ _ _ _; simpa using this, rfl, Nat.zero_le _⟩
  case round =>
    obtain ⟨i, a, n, c, l, hi, rfl, rfl, HI, HO, HE, HLL⟩ := hrel
    by_cases hlt : i < np
    · have hlt' : (i : Int) < (np : Int) := by omega
      have hi0 : (0 : Int) ≤ (i : Int) := by omega
      obtain ⟨g, off, hap, _, _, hc⟩ := (HP.out.below HI.out.b).at (by omega)
      subst hap
      obtain ⟨x0, x1⟩ := hc i hlt
      have HD : Hid (t.ps.drop i = pAtB t.ps i :: t.ps.drop (i + 1)) := drop_pAtB (by rw [← HNP.out]; exact hlt)
      rw [HD.out, delS_cons] at HE
      clear hc
      generalize pAtB t.ps i = xx at *
      obtain ⟨y0, y1⟩ := xx
      simp only at x0 x1 HE
      have hbx := below_new (o := .cells #[.string y0, .string y1] 75) (w := wr) (Below.refl _ _)
      have HIX := hid (HI.out.keep hbx)
      have HOX := hid (HO.out.kept hbx)
      have KX := hid (Bk.new wr 75 [.string y0, .string y1])
      have k0 := KX.out.cell (j := 0) rfl
      have k1 := KX.out.cell (j := 1) rfl
      clear hbx
      by_cases e : y0 = k
      · have HEQ : Hid (l ++ delS (t.ps.drop (i + 1)) k = delS t.ps k) := by have := HE.out; show _ = _; simpa [e] using this
        subst e
        clear HE
        go_wp2
        go_roundw
        case rel => exact ⟨i + 1, a, n, c, l, by omega, rfl, by go_num, HIX.out, HOX.out, HEQ.out, by have := HLL.out; show _ ≤ _; omega⟩
        case measure => simp [intOf]; omega
      · have HEQ : Hid ((l ++ [(y0, y1)]) ++ delS (t.ps.drop (i + 1)) k = delS t.ps k) := by have := HE.out; show _ = _; simpa [e] using this
        have hne : (y0.toList == k.toList) = false := by
          rw [beq_eq_false_iff_ne]; exact fun h => e (str_ext h)
        have hby := below_new (o := .cells #[.string y0, .string y1] 75) (w := wr.alloc (.cells #[.string y0, .string y1] 75)) (Below.refl _ _)
        have HIY := hid (HIX.out.keep hby)
        have HOY := hid (HOX.out.kept hby)
        have HPa : Hid (Pr ((wr.alloc (.cells #[.string y0, .string y1] 75)).alloc (.cells #[.string y0, .string y1] 75)) (fun _ => True) (.slice (some ⟨wr.heap.size + 1, 0, none⟩) 1 1) [(y0, y1)]) := by
          have := (Bk.new (wr.alloc (.cells #[.string y0, .string y1] 75)) 75 [.string y0, .string y1]).pr (n := 1) (ps := [(y0, y1)]) rfl (by omega) (fun _ => True) trivial
          have hz : (wr.alloc (.cells #[.string y0, .string y1] 75)).heap.size = wr.heap.size + 1 := by simp
          rw [hz] at this
          exact this
        clear HE hby
        go_wp2_with (at_builtin; refine wpList_append_pairs rfl _ _ rfl (w.heap.size + 2) _ _ rfl HOY.out (fun _ => True) _ [(y0, y1)] rfl HPa.out ?q1 ?q2 ?_)
        case q1 => have := HLL.out; simp; omega
        case q2 => have h9 := HI.out.z; first | omega | (simp; omega)
        intro v2 w2 hO2 hg2
        obtain ⟨a2, n2, c2, e2, -⟩ := hO2.shape'
        subst e2
        have HI2 := hid (HIY.out.grow hg2 (fun x e => (World.ownsRow.lt HOY.out x e).1))
        have HO2 := hid hO2
        clear hO2 hg2
        go_wp2
        go_roundw
        case rel => exact ⟨i + 1, a2, n2, c2, _, by omega, rfl, by go_num, HI2.out, HO2.out, HEQ.out, by have := HLL.out; show _ ≤ _; simp; omega⟩
        case measure => simp [intOf]; omega
    · have hlt' : ¬ (i : Int) < (np : Int) := by omega
      have HD : Hid (t.ps.drop i = []) := List.drop_eq_nil_of_le (by rw [← HNP.out]; omega)
      rw [HD.out] at HE
      have HEQ : Hid (delS t.ps k = l) := by have := HE.out; show _ = _; simpa [delS] using this.symm
      have r0 := HI.out.r.cell (j := 0) rfl
      have r1 := HI.out.r.cell (j := 1) rfl
      have r2 := HI.out.r.cell (j := 2) rfl
      have rf0 := HI.out.r.free 0
      have rf1 := HI.out.r.free 1
      have rf2 := HI.out.r.free 2
      have HD2 := hid (HI.out.done (S := fun y => S y ∧ y < w.heap.size) (Sub.leafOf (HO.out.pr (fun y _ h1 _ => .inr h1))) (fun y hy => hy.2))
      have z0 := HD2.out.2.2.cell (j := 0) rfl
      have z1 := HD2.out.2.2.cell (j := 1) rfl
      have z2 := HD2.out.2.2.cell (j := 2) rfl
      clear HE HP
      go_wp2
      refine bodyPost_ret (v := .agg #[.bool true, .slice a n c, .slice none 0 0]) ?_ rfl ?_
      · refine results_sub1 rfl _ _ _ rfl ?_ ?_ ?_
        · exact z0
        · exact z1
        · exact z2
      · refine ⟨_, _, _, _, _, _, _, rfl, ?_, HD2.out.2.1⟩
        rw [HEQ.out]
        exact HD2.out.1.mono (fun y hy _ => hy.imp (fun h => h.1) id)
end Go.Proofs.Ytjplocdjbfpcgab
/-
  l03Drop of the specification: it drops as the plain function drops.
-/
namespace Go.Proofs.Ytjplocdjbfpcgab
open Go.RowKit
set_option maxHeartbeats 4000000 in
set_option maxRecDepth 20000 in
theorem specDrop_any : ∀ (f : Nat) (r : Bool) (S : Nat → Prop) (lf : Bool) (ap ak : Option Addr) (np cp nk ck : Nat) (t : T) (k : ByteArray) (w : World), Sub w S lf (.slice ap np cp) (.slice ak nk ck) t → PutIn f r t →
    Calls Try.prog 56 #[.agg #[.bool lf, .slice ap np cp, .slice ak nk ck], .string k] w fun e w' => DropPost w S (dropS f t k) e w' := by
  intro f
  induction f with
  | zero => intro r S lf ap ak np cp nk ck t k w _ g; exact g.ev.elim
  | succ f ih =>
  intro r S lf ap ak np cp nk ck t k w h g
  obtain ⟨_, _, _, _, _, _, e1, e2, HNP, HNK, b1, b2, hlf, -⟩ := h.shape
  cases e1
  cases e2
  by_cases hk : t.ks = []
  · have hn : nk = 0 := by rw [HNK.out, hk]; rfl
    have hl : lf = true := by rw [hlf, hn]; rfl
    have HF : dropS (f + 1) t k = .mk (delS t.ps k) [] := by rw [dropS, if_pos hk]
    subst hn hl
    rw [HF]
    exact specDrop_leaf S ap ak np cp ck t k w h (by obtain ⟨ps, ks⟩ := t; cases (show ks = [] from hk); exact g.leaf.2.1)
  · obtain ⟨ps, ks⟩ := t
    simp only [T.ks, T.ps] at hk HNK HNP
    obtain ⟨hp0, hl1, hl2, hf3, he4, ha5⟩ := g.kids hk
    have hn0 : nk ≠ 0 := by rw [HNK.out]; have := List.length_pos_iff.2 hk; omega
    have hl : lf = false := by rw [hlf]; exact decide_eq_false hn0
    subst hl
    obtain ⟨hq, _, _⟩ := kidOf_spec k hk
    have hw := wayOf_eq (k := k) hk hf3 ha5
    have HF : Hid (dropS (f + 1) (.mk ps ks) k = if (dropS f (tAt ks (wayOf ks k)) k).poor = true then .mk [] ((ks.set (wayOf ks k) (dropS f (tAt ks (wayOf ks k)) k)).take (max (wayOf ks k) 1 - 1) ++ togS (tAt (ks.set (wayOf ks k) (dropS f (tAt ks (wayOf ks k)) k)) (max (wayOf ks k) 1 - 1)) (tAt (ks.set (wayOf ks k) (dropS f (tAt ks (wayOf ks k)) k)) (max (wayOf ks k) 1)) ++ (ks.set (wayOf ks k) (dropS f (tAt ks (wayOf ks k)) k)).drop (max (wayOf ks k) 1 + 1)) else .mk [] (ks.set (wayOf ks k) (dropS f (tAt ks (wayOf ks k)) k))) := by
      show _ = _; rw [dropS, if_neg (show ¬ (T.mk ps ks).ks = [] from hk)]; rfl
    have HKG := hid (g.kid hk k)
    rw [← hw] at hq HKG
    have HNR : Hid (Near f (dropS f (tAt ks (wayOf ks k)) k) (delP (tAt ks (wayOf ks k)).all k)) := by
      show Near _ _ _
      rw [dropS_eq f false _ k HKG.out]; exact (dropF_out f false _ k HKG.out).1
    have HKF : Hid (∀ x ∈ ks, x.full false = true) := hf3
    have HKE : Hid (∀ x ∈ ks, Ev f x) := he4
    have H0 : Hid (Sub w (fun y => S y ∧ y < w.heap.size) false (.slice ap np cp) (.slice ak nk ck) (.mk ps ks)) := h.mono (fun y hy hl => ⟨hy, hl⟩)
    have hnk : nk ≤ 4 := by rw [HNK.out]; exact hl2
    have hnk2 : 2 ≤ nk := by rw [HNK.out]; exact hl1
    have HWY := hid (fun (w' : World) (h' : Sub w' (fun y => S y ∧ y < w.heap.size) false (.slice ap np cp) (.slice ak nk ck) (.mk ps ks)) => specWay_any _ false ap ak np cp nk ck (.mk ps ks) k w' h' (by simp only [T.ks]; omega))
    simp only [T.ks] at HWY
    have IH := hid ih
    have hqn : wayOf ks k < nk := by rw [HNK.out]; exact hq
    have HQ := hid hq
    generalize hqq : wayOf ks k = q at *
    clear hqq hw h g ih hlf b1 b2 hp0 hl1 hl2 hf3 he4 ha5 hq
    have HI0 := hid (dri_start w false (.slice ap np cp) (.slice ak nk ck))
    have s0 := HI0.out.s.cell (j := 0) rfl
    have s1 := HI0.out.s.cell (j := 1) rfl
    have s2 := HI0.out.s.cell (j := 2) rfl
    go_enter Try.func56, Try.ntmps56
    go_wp2_with fail
    refine (HWY.out _ (H0.out.kept HI0.out.b)).mono ?_
    generalize (w.alloc (.cells #[.bool false, .slice ap np cp, .slice ak nk ck] 55)).alloc (.cells #[.bool false, .slice none 0 0, .slice none 0 0] 55) = U at *
    rintro e w1 ⟨rfl, hb⟩
    have HI1 := hid (HI0.out.keep hb)
    have HI2 := hid (HI1.out.keep (below_new (o := .cells #[] 55) (w := w1) (Below.refl _ _)))
    have HSN := hid (so_new w1 (w.heap.size + 2) HI1.out.z)
    clear hb s0 s1 s2 HWY HI0
    have HS2 := hid ((H0.out.kept HI2.out.b).row)
    simp only [T.ks] at HS2
    have u2 := HI2.out.s.cell (j := 2) rfl
    go_wp2_with (at_builtin; refine wpList_append_subs rfl _ _ rfl (w.heap.size + 2) _ (fun y => S y ∧ y < w.heap.size) (.slice (some ⟨w1.heap.size, 0, none⟩) 0 0) _ [] ks rfl HSN.out rfl HS2.out ?q0 ?q1 ?q2 ?_)
    case q0 => intro y hy e; have e' : w1.heap.size = y := (by simpa [Value.ownBlock] using e)
               have := HI1.out.z; have := hy.2; omega
    case q1 => have := HNK.out; simp; omega
    case q2 => have := HI1.out.z; first | omega | (simp; omega)
    intro v3 w3 hO3 hg3 ha3
    obtain ⟨a3, n3, c3, e3, hn3⟩ := hO3.shape
    subst e3
    have hlo3 := hO3.lo
    have HI3 := hid (HI2.out.grow hg3 (fun x e => by have e' : w1.heap.size = x := (by simpa [Value.ownBlock] using e); have := HI1.out.z; omega))
    have HS3 : Hid (SO w3 (w.heap.size + 2) (fun y => S y ∧ y < w.heap.size) (.slice a3 n3 c3) ks) := hO3.mono (fun y hy _ => hy.1) (fun y hy e => by have := (hlo3 y e).1; have := hy.2; omega)
    have HN3 : Hid (n3 = nk) := by have := hn3.out; have := HNK.out; show _ = _; simp at *; omega
    clear hO3 hg3 ha3 HSN HS2 HI2 u2 hlo3 hn3 HI1
    obtain ⟨gk, hak, hfr, hat⟩ := HS3.out.at (by rw [← HNK.out]; omega)
    subst hak
    obtain ⟨l9, ap9, np9, cp9, ak9, nk9, ck9, x0, x1, x2, hs9⟩ := hat q HQ.out
    have HS9 := hid hs9
    have hgk := HS3.out.lo gk rfl
    have HGK := hid hgk
    have hq2 : (0 : Int) ≤ (q : Int) := by omega
    have hq4 : (q : Int) < (n3 : Int) := by have := HN3.out; omega
    clear hat hs9 hgk hfr
    go_wp2_with fail
    refine (IH.out false _ l9 ap9 ak9 np9 cp9 nk9 ck9 (tAt ks q) k w3 HS9.out HKG.out).mono ?_
    rintro e w4 ⟨lz, apz, npz, cpz, akz, nkz, ckz, rfl, hsz, hbz⟩
    have HI4 := hid (HI3.out.keep hbz)
    have HS4 := hid (HS3.out.kept hbz)
    have HZ34 := hid hbz.size
    have hsz2 : Sub w4 (fun y => (S y ∧ y < w.heap.size) ∨ (w3.heap.size ≤ y ∧ y < w4.heap.size)) lz (.slice apz npz cpz) (.slice akz nkz ckz) (dropS f (tAt ks q) k) := hsz.mono (fun y hy hl => hy.imp id (fun h => ⟨h, hl⟩))
    have HS5 := hid (HS4.out.set HQ.out hsz2 (fun y hy e => by
      have := HGK.out
      rcases hy with hy | hy
      · have := hy.2; omega
      · omega))
    obtain ⟨_, e5, hfr4, hat4⟩ := HS4.out.at (by rw [← HNK.out]; omega)
    cases e5
    obtain ⟨m9, _, _, _, _, _, _, y0, y1, y2, -⟩ := hat4 q HQ.out
    have yf0 := hfr4 (q * 3)
    have yf1 := hfr4 (q * 3 + 1)
    have yf2 := hfr4 (q * 3 + 2)
    generalize hrr : dropS f (tAt ks q) k = rr at *
    have HRR := hid hrr
    have HI5 : Hid (DrI w (((w4.setCell ⟨gk, q * 3, none⟩ (.bool lz)).setCell ⟨gk, q * 3 + 1, none⟩ (.slice apz npz cpz)).setCell ⟨gk, q * 3 + 2, none⟩ (.slice akz nkz ckz)) false (.slice ap np cp) (.slice ak nk ck)) := HI4.out.only (((only_set (R := fun y => y = gk) rfl _).trans (only_set (R := fun y => y = gk) rfl _)).trans (only_set (R := fun y => y = gk) rfl _)) (fun x e => by have := HGK.out; omega)
    have HLN : Hid ((ks.set q rr).length = nk) := by show _ = _; rw [List.length_set]; exact HNK.out.symm
    obtain ⟨_, e5, hfr5, hat5⟩ := HS5.out.at (by rw [HLN.out]; omega)
    cases e5
    obtain ⟨l5, ap5, np5, cp5, ak5, nk5, ck5, t0, t1, t2, hs5⟩ := hat5 q (by rw [HLN.out]; exact hqn)
    rw [show tAt (ks.set q rr) q = rr by simp [tAt, HQ.out]] at hs5
    have HFW := hid (specFew_any _ l5 ap5 ak5 np5 cp5 nk5 ck5 rr _ hs5 (fun h => (HNR.out.br h).1))
    have HW5 : Hid (w4.heap.size = (((w4.setCell ⟨gk, q * 3, none⟩ (.bool lz)).setCell ⟨gk, q * 3 + 1, none⟩ (.slice apz npz cpz)).setCell ⟨gk, q * 3 + 2, none⟩ (.slice akz nkz ckz)).heap.size) := by show _ = _; simp [World.setCell]
    clear hsz hbz hsz2 hat4 hfr4 hat5 hfr5 hs5 hrr
    go_wp2_with fail
    refine HFW.out.mono ?_
    generalize hX : (((w4.setCell ⟨gk, q * 3, none⟩ (.bool lz)).setCell ⟨gk, q * 3 + 1, none⟩ (.slice apz npz cpz)).setCell ⟨gk, q * 3 + 2, none⟩ (.slice akz nkz ckz)) = X at *
    clear hX y0 y1 y2 yf0 yf1 yf2 x0 x1 x2
    rintro e w6 ⟨rfl, hb⟩
    have HI6 := hid (HI5.out.keep hb)
    have HS6 := hid (HS5.out.kept hb)
    have HZ6 := hid hb.size
    clear hb t0 t1 t2 HFW HS5 HI5 HS4 HI4 HS3 HI3 HS9
    have hn32 : ¬ (n3 : Int) < 2 := by have := HN3.out; omega
    cases hpo : rr.poor with
    | false =>
      have HF2 : Hid (dropS (f + 1) (.mk ps ks) k = .mk [] (ks.set q rr)) := by show _ = _; rw [HF.out, if_neg (by rw [hpo]; simp)]
      have r0 := HI6.out.r.cell (j := 0) rfl
      have r1 := HI6.out.r.cell (j := 1) rfl
      have r2 := HI6.out.r.cell (j := 2) rfl
      have rf0 := HI6.out.r.free 0
      have rf1 := HI6.out.r.free 1
      have rf2 := HI6.out.r.free 2
      have hsr : SubR w6 (fun y => (S y ∧ y < w.heap.size) ∨ w.heap.size + 2 ≤ y) (.slice (some ⟨gk, 0, none⟩) n3 c3) (ks.set q rr) := HS6.out.subR (fun y _ h1 _ => .inr h1) (fun y hy _ => by
        rcases hy with h | h | h
        · exact .inl h
        · exact .inl h
        · right; have := HGK.out; omega)
      have HD2 := hid (HI6.out.done (S := fun y => S y ∧ y < w.heap.size) (hsr.sub (by intro e; have := HLN.out; rw [e] at this; simp at this; omega)) (fun y hy => hy.2))
      have z0 := HD2.out.2.2.cell (j := 0) rfl
      have z1 := HD2.out.2.2.cell (j := 1) rfl
      have z2 := HD2.out.2.2.cell (j := 2) rfl
      clear hpo hsr
      go_wp2
      refine bodyPost_ret (v := .agg #[.bool false, .slice none 0 0, .slice (some ⟨gk, 0, none⟩) n3 c3]) ?_ rfl ?_
      · refine results_sub1 rfl _ _ _ rfl ?_ ?_ ?_
        · exact z0
        · exact z1
        · exact z2
      · refine ⟨_, _, _, _, _, _, _, rfl, ?_, HD2.out.2.1⟩
        rw [HF2.out]
        exact HD2.out.1.mono (fun y hy _ => hy.imp (fun h => h.1) id)
    | true =>
      obtain ⟨s, hs⟩ : ∃ s, max q 1 = s + 1 := ⟨max q 1 - 1, by omega⟩
      have HF2 : Hid (dropS (f + 1) (.mk ps ks) k = .mk [] ((ks.set q rr).take s ++ togS (tAt (ks.set q rr) s) (tAt (ks.set q rr) (s + 1)) ++ (ks.set q rr).drop (s + 1 + 1))) := by show _ = _; rw [HF.out, if_pos hpo, hs, Nat.add_sub_cancel]
      have hsn : s + 1 < nk := by omega
      have HKS : Hid (SO w6 (w.heap.size + 2) (fun y => (S y ∧ y < w.heap.size) ∨ (w3.heap.size ≤ y ∧ y < w4.heap.size)) (.slice (some ⟨gk, 0, none⟩) n3 c3) (ks.set q rr)) := HS6.out.mono (fun y hy _ => by
        rcases hy with h | h | h
        · exact .inl h
        · exact .inl h
        · exact .inr h) (fun y hy e => by
        have e' : gk = y := by simpa [Value.ownBlock] using e
        have := HGK.out
        rcases hy with h | h
        · have := h.2; omega
        · omega)
      have HSM : Hid (∀ i, i < nk → Ev f (tAt (ks.set q rr) i) ∧ (tAt (ks.set q rr) i).ps.length ≤ 4 ∧ (tAt (ks.set q rr) i).ks.length ≤ 4) := by
        intro i hi
        by_cases e : i = q
        · subst e
          rw [show tAt (ks.set i rr) i = rr by simp [tAt, HQ.out]]
          refine ⟨HNR.out.ev, ?_, ?_⟩
          · by_cases h : rr.ks = []
            · exact HNR.out.leaf h
            · rw [(HNR.out.br h).1]; simp
          · by_cases h : rr.ks = []
            · rw [h]; simp
            · exact (HNR.out.br h).2.1
        · rw [show tAt (ks.set q rr) i = tAt ks i by simp [tAt, Ne.symm e]]
          have hm : tAt ks i ∈ ks := tAt_mem (by rw [← HNK.out]; exact hi)
          exact ⟨HKE.out _ hm, full_small (HKF.out _ hm)⟩
      have HNE : Hid ((ks.set q rr).take s ++ togS (tAt (ks.set q rr) s) (tAt (ks.set q rr) (s + 1)) ++ (ks.set q rr).drop (s + 1 + 1) ≠ []) := by
        intro e
        have h1 := List.append_eq_nil_iff.1 e
        have h2 := List.append_eq_nil_iff.1 h1.1
        have h3 : splT (.mk ((tAt (ks.set q rr) s).ps ++ (tAt (ks.set q rr) (s + 1)).ps) ((tAt (ks.set q rr) s).ks ++ (tAt (ks.set q rr) (s + 1)).ks)) = [] := h2.2
        unfold splT at h3
        split at h3
        · cases h3
        · split at h3 <;> cases h3
      have HTL : Hid ((togS (tAt (ks.set q rr) s) (tAt (ks.set q rr) (s + 1))).length ≤ 2) := by
        show (splT _).length ≤ 2
        unfold splT
        split
        · simp
        · split <;> simp
      have HTP : Hid (0 < (togS (tAt (ks.set q rr) s) (tAt (ks.set q rr) (s + 1))).length) := by
        show 0 < (splT _).length
        unfold splT
        split
        · simp
        · split <;> simp
      have HQ0 : Hid (q = 0 ∧ s = 0 ∨ q = s + 1) := by show _ ∨ _; omega
      have HSN : Hid (s + 1 < nk) := hsn
      have HPO := hid hpo
      generalize hkz : ks.set q rr = kz at *
      clear hkz HNR HKF HKE HF HRR HS6 hs hsn
      have hn4 : n3 ≤ 4 := by have := HN3.out; omega
      rcases HQ0.out with ⟨hq0', hs0'⟩ | hqs
      · have hqz : (q : Int) = 0 := by omega
        subst hs0'
        simp only [Nat.zero_add, List.take_zero, List.nil_append] at HTL HF2 HNE HSN HTP
        have HI7 := hid (HI6.out.keep (below_new (o := .cells #[] 55) (w := w6) (Below.refl _ _)))
        have HK7 := hid (HKS.out.kept (below_new (o := .cells #[] 55) (w := w6) (Below.refl _ _)))
        have HS7 := hid (so_new w6 w6.heap.size (Nat.le_refl _))
        have HGZ : Hid (gk < w6.heap.size ∧ w4.heap.size ≤ w6.heap.size ∧ w.heap.size + 2 ≤ w6.heap.size) := ⟨(HKS.out.lo gk rfl).2, by have h1 := HZ6.out; have h2 := HW5.out; omega, HI6.out.z⟩
        have HR7 : Hid (SubR (w6.alloc (.cells #[] 55)) (fun y => y < w6.heap.size ∧ ((S y ∧ y < w.heap.size) ∨ w.heap.size + 2 ≤ y)) (.slice (some ⟨gk, 0, none⟩) n3 c3) kz) := HK7.out.subR (fun y e h1 _ => by have e' : gk = y := (by simpa [Value.ownBlock] using e); have := HGZ.out; exact ⟨by omega, .inr h1⟩) (fun y hy _ => by
          have := HGZ.out
          have := HGK.out
          rcases hy with h | h
          · exact ⟨by have := h.2; omega, .inl h⟩
          · exact ⟨by omega, .inr (by omega)⟩)
        have hn1 : 0 + 1 < n3 := by have := HN3.out; have := HSN.out; omega
        have hc3 : n3 ≤ c3 ∧ c3 ≤ 9223372036854775807 := by obtain ⟨L, P, K, h1, _⟩ := HKS.out; exact (row_cap h1).2
        obtain ⟨hc31, hc32⟩ := hc3
        have hzn : 0 < n3 := by omega
        have hzn1 : 1 < n3 := by omega
        have hz1 : (0 : Int) ≤ (c3 : Int) := by omega
        have hz2 : (1 : Int) < (n3 : Int) := by omega
        have hz3 : (0 : Int) < (n3 : Int) := by omega
        have hwr : IntKind.i64.wrap (0 : Int) = 0 := by rw [IntKind.wrap_i64]; omega
        go_wp2_with (at_builtin; refine wpList_append_subs rfl _ _ rfl w6.heap.size _ (fun y => y < w6.heap.size ∧ ((S y ∧ y < w.heap.size) ∨ w.heap.size + 2 ≤ y)) (.slice (some ⟨w6.heap.size, 0, none⟩) 0 0) _ [] (kz.take (0)) rfl HS7.out rfl (HR7.out.take (by omega)) ?q0 ?q1 ?q2 ?_)
        case q0 => intro y hy e; have e' : w6.heap.size = y := (by simpa [Value.ownBlock] using e)
                   have := hy.1; omega
        case q1 => first | (rw [List.length_take]; simp; omega) | simp
        case q2 => first | omega | simp
        intro v8 w8 hO8 hg8 ha8
        obtain ⟨a8, n8, c8, e8, -⟩ := hO8.shape
        subst e8
        have hlo8 := hO8.lo
        have HI8 := hid (HI7.out.grow hg8 (fun x e => by have e' : w6.heap.size = x := (by simpa [Value.ownBlock] using e); have := HGZ.out; omega))
        have hon8 : Only (fun y => y = w6.heap.size) (w6.alloc (.cells #[] 55)) w8 := only_of_grown hg8 (fun x e => by have e' : w6.heap.size = x := (by simpa [Value.ownBlock] using e); omega)
        have HK8 := hid (HK7.out.to hon8 (fun y e h => by have e' : gk = y := (by simpa [Value.ownBlock] using e); have := HGZ.out; omega) (fun y hy _ h => by have := HGZ.out; rcases hy with h2 | h2 <;> omega))
        have HS8 : Hid (SO w8 w6.heap.size (fun y => y < w6.heap.size ∧ ((S y ∧ y < w.heap.size) ∨ w.heap.size + 2 ≤ y)) (.slice a8 n8 c8) (kz.take (0))) := by
          refine SO.mono (S := fun y => y < w6.heap.size ∧ ((S y ∧ y < w.heap.size) ∨ w.heap.size + 2 ≤ y)) ?_ (fun y hy _ => hy) (fun y hy e => by have := (hlo8 y e).1; have := hy.1; omega)
          have h9 := hO8.mono (R := fun y => y < w6.heap.size ∧ ((S y ∧ y < w.heap.size) ∨ w.heap.size + 2 ≤ y)) (fun y hy _ => by first | exact hy.1 | exact hy.1.resolve_left id) (fun y hy e => by have := (hlo8 y e).1; have := hy.1; omega)
          simpa using h9
        have HZ68 : Hid (w6.heap.size ≤ w8.heap.size) := by have := hon8.size; simp at this; show _ ≤ _; omega
        clear hO8 hg8 ha8 HI7 HK7 HS7 HR7 hlo8 hon8
        obtain ⟨_, eK, _, hatK⟩ := HK8.out.at (by rw [HLN.out]; omega)
        cases eK
        obtain ⟨la, apa, npa, cpa, aka, nka, cka, i0, i1, i2, hsa⟩ := hatK (0) (by rw [HLN.out]; have := HSN.out; omega)
        obtain ⟨lb, apb, npb, cpb, akb, nkb, ckb, j0, j1, j2, hsb⟩ := hatK (1) (by rw [HLN.out]; exact HSN.out)
        try simp only [Nat.zero_mul, Nat.one_mul, Nat.zero_add] at i0 i1 i2 j0 j1 j2
        have HTG := hid (specTogether_any _ la lb apa aka apb akb npa cpa nka cka npb cpb nkb ckb _ _ w8.drew (hsa.kept (below_drew _)) (hsb.kept (below_drew _)) (ev_leaf (HSM.out (0) (by have := HSN.out; omega)).1 (HSM.out (1) HSN.out).1) (by have h1 := (HSM.out (0) (by have := HSN.out; omega)).2.1; have h2 := (HSM.out (1) HSN.out).2.1; omega) (by have h1 := (HSM.out (0) (by have := HSN.out; omega)).2.2; have h2 := (HSM.out (1) HSN.out).2.2; omega))
        have HAP : Hid (∀ y, ((S y ∧ y < w.heap.size) ∨ (w3.heap.size ≤ y ∧ y < w4.heap.size)) ∨ w8.drew.heap.size ≤ y → (Value.slice a8 n8 c8).ownBlock ≠ some y) := by
          intro y hy e
          have h1 := HS8.out.lo y e
          have h2 := HGZ.out
          rcases hy with (h | h) | h
          · have := h.2; omega
          · omega
          · have h3 : w8.heap.size ≤ y := h
            omega
        have HTL2 : Hid ((kz.take (0)).length + (togS (tAt kz (0)) (tAt kz (1))).length ≤ 1048576) := by have := HTL.out; rw [List.length_take]; show _ ≤ _; omega
        have HST : Hid (∀ (w9 : World), Below w8.drew.heap.size w8.drew w9 → SO w9 w6.heap.size (fun y => y < w6.heap.size ∧ ((S y ∧ y < w.heap.size) ∨ w.heap.size + 2 ≤ y)) (.slice a8 n8 c8) (kz.take (0)) ∧ w6.heap.size ≤ w9.heap.size) := by
          intro w9 hb
          refine ⟨HS8.out.kept (Below.then' (below_drew w8) hb (Nat.le_refl _)), ?_⟩
          have h5 : w8.heap.size ≤ w9.heap.size := hb.size
          have := HZ68.out; omega
        have HFIN : Hid (∀ (w9 wA : World) (aA : Option Addr) (nA cA : Nat) (R : Nat → Prop), Below w8.drew.heap.size w8.drew w9 → SO wA w6.heap.size R (.slice aA nA cA) (kz.take (0) ++ togS (tAt kz (0)) (tAt kz (1))) → (∀ y, R y → ((S y ∧ y < w.heap.size) ∨ w.heap.size + 2 ≤ y)) → w9.grownBy wA (Value.slice a8 n8 c8).ownBlock →
            SO wA w6.heap.size (fun y => ((S y ∧ y < w.heap.size) ∨ (w.heap.size + 2 ≤ y ∧ (Value.slice aA nA cA).ownBlock ≠ some y))) (.slice aA nA cA) (kz.take (0) ++ togS (tAt kz (0)) (tAt kz (1))) ∧ DrI w wA false (.slice ap np cp) (.slice ak nk ck) ∧ SO wA (w.heap.size + 2) (fun y => (S y ∧ y < w.heap.size) ∨ (w3.heap.size ≤ y ∧ y < w4.heap.size)) (.slice (some ⟨gk, 0, none⟩) n3 c3) kz) := by
          intro w9 wA aA nA cA R hb hO hR hg
          have hlo := hO.lo
          have hz := HGZ.out
          have hb2 := Below.then' (below_drew w8) hb (Nat.le_refl _)
          have hon : Only (fun y => w6.heap.size ≤ y) w9 wA := only_of_grown hg (fun x e => (HS8.out.lo x e).1)
          refine ⟨?_, (HI8.out.keep hb2).only hon (fun x h => by omega), (HK8.out.kept hb2).to hon (fun y e h => by have e' : gk = y := (by simpa [Value.ownBlock] using e); omega) (fun y hy _ h => by rcases hy with h2 | h2 <;> omega)⟩
          obtain ⟨L, P, K, h1, h2, h3⟩ := hO
          refine ⟨L, P, K, h1, fun i hi => (h2 i hi).mono (fun y hy hl => ?_), ?_⟩
          · rcases hR y hy with h | h
            · exact .inl h
            · exact .inr ⟨h, h3 y hy⟩
          · rintro y (h | h)
            · intro e; have := (hlo y e).1; have := h.2; omega
            · exact h.2
        have HRR2 : Hid (∀ y, ((y < w6.heap.size ∧ ((S y ∧ y < w.heap.size) ∨ w.heap.size + 2 ≤ y)) ∨ ((S y ∧ y < w.heap.size) ∨ (w3.heap.size ≤ y ∧ y < w4.heap.size)) ∨ w8.drew.heap.size ≤ y) ∧ True → ((S y ∧ y < w.heap.size) ∨ w.heap.size + 2 ≤ y)) := by
          have h1 := HGK.out
          have h2 := HGZ.out
          have h4 := HZ68.out
          rintro y ⟨h | (h | h) | h, -⟩
          · exact h.2
          · exact .inl h
          · right; omega
          · have h3 : w8.heap.size ≤ y := h
            right; omega
        clear hsa hsb hatK
        go_wp2_with fail
        go_cut [10] (fun x v2 => ∃ (aA : Option Addr) (nA cA : Nat), x = .slice aA nA cA ∧ Hid (SO v2 w6.heap.size (fun y => ((S y ∧ y < w.heap.size) ∨ (w.heap.size + 2 ≤ y ∧ (Value.slice aA nA cA).ownBlock ≠ some y))) (.slice aA nA cA) (kz.take (0) ++ togS (tAt kz (0)) (tAt kz (1)))) ∧ Hid (DrI w v2 false (.slice ap np cp) (.slice ak nk ck)) ∧ Hid (SO v2 (w.heap.size + 2) (fun y => (S y ∧ y < w.heap.size) ∨ (w3.heap.size ≤ y ∧ y < w4.heap.size)) (.slice (some ⟨gk, 0, none⟩) n3 c3) kz))
        case first =>
          go_region_law (first
            | (go_simp; go_at_call 83; refine HTG.out.mono ?_; rintro e w9 ⟨v9, rfl, hR9, hb9⟩)
            | (refine step_append_subs rfl _ _ rfl w6.heap.size _ _ (.slice a8 n8 c8) _ (kz.take (0)) (togS (tAt kz (0)) (tAt kz (1))) rfl (HST.out _ hb9).1 rfl hR9 HAP.out HTL2.out (HST.out _ hb9).2 ?_; intro vA wA hOA hgA haA; obtain ⟨aA, nA, cA, eA, -⟩ := hOA.shape; subst eA))
          all_goals (go_wp2_with fail; go_meet)
          all_goals exact ⟨aA, nA, cA, rfl, (HFIN.out _ _ _ _ _ _ hb9 hOA (fun y hy => HRR2.out y ⟨hy.1, trivial⟩) hgA).1, (HFIN.out _ _ _ _ _ _ hb9 hOA (fun y hy => HRR2.out y ⟨hy.1, trivial⟩) hgA).2.1, (HFIN.out _ _ _ _ _ _ hb9 hOA (fun y hy => HRR2.out y ⟨hy.1, trivial⟩) hgA).2.2⟩
        case rest =>
          obtain ⟨aA, nA, cA, rfl, HSA, HIA, HKA⟩ := hcut
          clear HFIN HST HAP HTG i0 i1 i2 j0 j1 j2 HS8 HI8 HK8 HTL2 HRR2
          have HZB : Hid (w6.heap.size ≤ wc.heap.size) := by
            obtain ⟨L, P, K, h1, _⟩ := HSA.out
            have hlen : 0 < (kz.take (0) ++ togS (tAt kz (0)) (tAt kz (1))).length := by
              rw [List.length_append]
              have := HTP.out
              omega
            rcases h1.2 with ⟨_, h0⟩ | ⟨g, _, _, h0, h2, h3, _⟩
            · omega
            · have := (Array.getElem?_eq_some_iff.1 h3).1
              show _ ≤ _; omega
          have HRA : Hid (SubR wc (fun y => y < w6.heap.size ∧ ((S y ∧ y < w.heap.size) ∨ w.heap.size + 2 ≤ y)) (.slice (some ⟨gk, 0, none⟩) n3 c3) kz) := HKA.out.subR (fun y e h1 _ => by have e' : gk = y := (by simpa [Value.ownBlock] using e); have := HGZ.out; exact ⟨by omega, .inr h1⟩) (fun y hy _ => by
            have := HGZ.out
            have := HGK.out
            rcases hy with h | h
            · exact ⟨by have := h.2; omega, .inl h⟩
            · exact ⟨by omega, .inr (by omega)⟩)
          have HAQ : Hid (∀ y, y < w6.heap.size ∧ ((S y ∧ y < w.heap.size) ∨ w.heap.size + 2 ≤ y) → (Value.slice aA nA cA).ownBlock ≠ some y) := fun y hy e => by have := (HSA.out.lo y e).1; have := hy.1; omega
          have HDL : Hid ((kz.take (0) ++ togS (tAt kz (0)) (tAt kz (1))).length + (kz.drop (2)).length ≤ 1048576) := by
            have := HTL.out
            have := HLN.out
            rw [List.length_append, List.length_take, List.length_drop]; show _ ≤ _; omega
          have hzz1 : (2 : Int) ≤ (n3 : Int) := by omega
          have hzz2 : (0 : Int) ≤ (2 : Int) := by omega
          by_cases hcap : ¬ c3 = 2
          · have HDR := hid (HRA.out.drop (m := 2) (by omega))
            rw [Nat.zero_add] at HDR
            go_wp2_with (at_builtin; refine wpList_append_subs rfl _ _ rfl w6.heap.size _ (fun y => y < w6.heap.size ∧ ((S y ∧ y < w.heap.size) ∨ w.heap.size + 2 ≤ y)) (.slice aA nA cA) _ _ (kz.drop (2)) rfl HSA.out rfl HDR.out HAQ.out HDL.out HZB.out ?_)
            intro v6 wD hO6 hg6 ha6
            obtain ⟨a6, n6, c6, e6, -⟩ := hO6.shape
            subst e6
            have hID := HIA.out.grow hg6 (fun x e => by have := (HSA.out.lo x e).1; have := HGZ.out; omega)
            have hSD : Sub wD (fun y => (S y ∧ y < w.heap.size) ∨ w.heap.size + 2 ≤ y) false (.slice none 0 0) (.slice a6 n6 c6) (.mk [] (togS (tAt kz 0) (tAt kz 1) ++ kz.drop 2)) := (hO6.subR (fun y _ h1 _ => .inr (by have := HGZ.out; omega)) (fun y hy _ => by
              rcases hy.1 with (h | h) | h
              · exact .inl h
              · exact .inr h.1
              · exact h.2)).sub HNE.out
            have HD2 := hid (hID.done (S := fun y => S y ∧ y < w.heap.size) hSD (fun y hy => hy.2))
            have r0 := hID.r.cell (j := 0) rfl
            have r1 := hID.r.cell (j := 1) rfl
            have r2 := hID.r.cell (j := 2) rfl
            have rf0 := hID.r.free 0
            have rf1 := hID.r.free 1
            have rf2 := hID.r.free 2
            have z0 := HD2.out.2.2.cell (j := 0) rfl
            have z1 := HD2.out.2.2.cell (j := 1) rfl
            have z2 := HD2.out.2.2.cell (j := 2) rfl
            clear hO6 hg6 ha6 hID hSD HDR
            go_wp2
            refine bodyPost_ret (v := .agg #[.bool false, .slice none 0 0, .slice a6 n6 c6]) ?_ rfl ?_
            · refine results_sub1 rfl _ _ _ rfl ?_ ?_ ?_
              · exact z0
              · exact z1
              · exact z2
            · refine ⟨_, _, _, _, _, _, _, rfl, ?_, HD2.out.2.1⟩
              rw [HF2.out]
              exact HD2.out.1.mono (fun y hy _ => hy.imp (fun h => h.1) id)
          · have hck : c3 = 2 := by omega
            have hnk1 : n3 = 2 := by omega
            have HDR : Hid (SubR wc (fun y => y < w6.heap.size ∧ ((S y ∧ y < w.heap.size) ∨ w.heap.size + 2 ≤ y)) (.slice (some ⟨gk, 0, none⟩) 0 0) (kz.drop (2))) := by
              rw [List.drop_eq_nil_of_le (by rw [HLN.out]; have := HN3.out; omega)]
              exact ⟨fun _ => false, fun _ => .slice none 0 0, fun _ => .slice none 0 0, ⟨_, 0, rfl, Nat.le_refl _, by omega, fun _ => rfl, fun h => (by cases h), fun h => (by simp at h)⟩, fun i hi => (by simp at hi)⟩
            subst hck hnk1
            go_wp2_with (at_builtin; refine wpList_append_subs rfl _ _ rfl w6.heap.size _ (fun y => y < w6.heap.size ∧ ((S y ∧ y < w.heap.size) ∨ w.heap.size + 2 ≤ y)) (.slice aA nA cA) _ _ (kz.drop (2)) rfl HSA.out rfl HDR.out HAQ.out HDL.out HZB.out ?_)
            intro v6 wD hO6 hg6 ha6
            obtain ⟨a6, n6, c6, e6, -⟩ := hO6.shape
            subst e6
            have hID := HIA.out.grow hg6 (fun x e => by have := (HSA.out.lo x e).1; have := HGZ.out; omega)
            have hSD : Sub wD (fun y => (S y ∧ y < w.heap.size) ∨ w.heap.size + 2 ≤ y) false (.slice none 0 0) (.slice a6 n6 c6) (.mk [] (togS (tAt kz 0) (tAt kz 1) ++ kz.drop 2)) := (hO6.subR (fun y _ h1 _ => .inr (by have := HGZ.out; omega)) (fun y hy _ => by
              rcases hy.1 with (h | h) | h
              · exact .inl h
              · exact .inr h.1
              · exact h.2)).sub HNE.out
            have HD2 := hid (hID.done (S := fun y => S y ∧ y < w.heap.size) hSD (fun y hy => hy.2))
            have r0 := hID.r.cell (j := 0) rfl
            have r1 := hID.r.cell (j := 1) rfl
            have r2 := hID.r.cell (j := 2) rfl
            have rf0 := hID.r.free 0
            have rf1 := hID.r.free 1
            have rf2 := hID.r.free 2
            have z0 := HD2.out.2.2.cell (j := 0) rfl
            have z1 := HD2.out.2.2.cell (j := 1) rfl
            have z2 := HD2.out.2.2.cell (j := 2) rfl
            clear hO6 hg6 ha6 hID hSD HDR
            go_wp2
            refine bodyPost_ret (v := .agg #[.bool false, .slice none 0 0, .slice a6 n6 c6]) ?_ rfl ?_
            · refine results_sub1 rfl _ _ _ rfl ?_ ?_ ?_
              · exact z0
              · exact z1
              · exact z2
            · refine ⟨_, _, _, _, _, _, _, rfl, ?_, HD2.out.2.1⟩
              rw [HF2.out]
              exact HD2.out.1.mono (fun y hy _ => hy.imp (fun h => h.1) id)
      · have hqz : ¬ (q : Int) = 0 := by omega
        subst hqs
        simp only [List.append_assoc] at HF2 HNE
        have HI7 := hid (HI6.out.keep (below_new (o := .cells #[] 55) (w := w6) (Below.refl _ _)))
        have HK7 := hid (HKS.out.kept (below_new (o := .cells #[] 55) (w := w6) (Below.refl _ _)))
        have HS7 := hid (so_new w6 w6.heap.size (Nat.le_refl _))
        have HGZ : Hid (gk < w6.heap.size ∧ w4.heap.size ≤ w6.heap.size ∧ w.heap.size + 2 ≤ w6.heap.size) := ⟨(HKS.out.lo gk rfl).2, by have h1 := HZ6.out; have h2 := HW5.out; omega, HI6.out.z⟩
        have HR7 : Hid (SubR (w6.alloc (.cells #[] 55)) (fun y => y < w6.heap.size ∧ ((S y ∧ y < w.heap.size) ∨ w.heap.size + 2 ≤ y)) (.slice (some ⟨gk, 0, none⟩) n3 c3) kz) := HK7.out.subR (fun y e h1 _ => by have e' : gk = y := (by simpa [Value.ownBlock] using e); have := HGZ.out; exact ⟨by omega, .inr h1⟩) (fun y hy _ => by
          have := HGZ.out
          have := HGK.out
          rcases hy with h | h
          · exact ⟨by have := h.2; omega, .inl h⟩
          · exact ⟨by omega, .inr (by omega)⟩)
        have hn1 : s + 1 < n3 := by have := HN3.out; have := HSN.out; omega
        have hc3 : n3 ≤ c3 ∧ c3 ≤ 9223372036854775807 := by obtain ⟨L, P, K, h1, _⟩ := HKS.out; exact (row_cap h1).2
        obtain ⟨hc31, hc32⟩ := hc3
        have hz5 : (0 : Int) ≤ (s : Int) + 1 := by omega
        have hz0 : (0 : Int) ≤ (s : Int) := by omega
        have hz1 : (s : Int) ≤ (c3 : Int) := by omega
        have hz2 : (s : Int) + 1 < (n3 : Int) := by omega
        have hz3 : (s : Int) < (n3 : Int) := by omega
        have hz4 : (s : Int) ≤ 1000 := by omega
        have hwr : IntKind.i64.wrap (s : Int) = (s : Int) := by rw [IntKind.wrap_i64]; omega
        have hwr2 : IntKind.i64.wrap ((s : Int) + 1 - 1) = (s : Int) := by rw [IntKind.wrap_i64]; omega
        go_wp2_with (at_builtin; refine wpList_append_subs rfl _ _ rfl w6.heap.size _ (fun y => y < w6.heap.size ∧ ((S y ∧ y < w.heap.size) ∨ w.heap.size + 2 ≤ y)) (.slice (some ⟨w6.heap.size, 0, none⟩) 0 0) _ [] (kz.take (s)) rfl HS7.out rfl (HR7.out.take (by omega)) ?q0 ?q1 ?q2 ?_)
        case q0 => intro y hy e; have e' : w6.heap.size = y := (by simpa [Value.ownBlock] using e)
                   have := hy.1; omega
        case q1 => first | (rw [List.length_take]; simp; omega) | simp
        case q2 => first | omega | simp
        intro v8 w8 hO8 hg8 ha8
        obtain ⟨a8, n8, c8, e8, -⟩ := hO8.shape
        subst e8
        have hlo8 := hO8.lo
        have HI8 := hid (HI7.out.grow hg8 (fun x e => by have e' : w6.heap.size = x := (by simpa [Value.ownBlock] using e); have := HGZ.out; omega))
        have hon8 : Only (fun y => y = w6.heap.size) (w6.alloc (.cells #[] 55)) w8 := only_of_grown hg8 (fun x e => by have e' : w6.heap.size = x := (by simpa [Value.ownBlock] using e); omega)
        have HK8 := hid (HK7.out.to hon8 (fun y e h => by have e' : gk = y := (by simpa [Value.ownBlock] using e); have := HGZ.out; omega) (fun y hy _ h => by have := HGZ.out; rcases hy with h2 | h2 <;> omega))
        have HS8 : Hid (SO w8 w6.heap.size (fun y => y < w6.heap.size ∧ ((S y ∧ y < w.heap.size) ∨ w.heap.size + 2 ≤ y)) (.slice a8 n8 c8) (kz.take (s))) := by
          refine SO.mono (S := fun y => y < w6.heap.size ∧ ((S y ∧ y < w.heap.size) ∨ w.heap.size + 2 ≤ y)) ?_ (fun y hy _ => hy) (fun y hy e => by have := (hlo8 y e).1; have := hy.1; omega)
          have h9 := hO8.mono (R := fun y => y < w6.heap.size ∧ ((S y ∧ y < w.heap.size) ∨ w.heap.size + 2 ≤ y)) (fun y hy _ => by first | exact hy.1 | exact hy.1.resolve_left id) (fun y hy e => by have := (hlo8 y e).1; have := hy.1; omega)
          simpa using h9
        have HZ68 : Hid (w6.heap.size ≤ w8.heap.size) := by have := hon8.size; simp at this; show _ ≤ _; omega
        clear hO8 hg8 ha8 HI7 HK7 HS7 HR7 hlo8 hon8
        obtain ⟨_, eK, _, hatK⟩ := HK8.out.at (by rw [HLN.out]; omega)
        cases eK
        obtain ⟨la, apa, npa, cpa, aka, nka, cka, i0, i1, i2, hsa⟩ := hatK (s) (by rw [HLN.out]; have := HSN.out; omega)
        obtain ⟨lb, apb, npb, cpb, akb, nkb, ckb, j0, j1, j2, hsb⟩ := hatK (s + 1) (by rw [HLN.out]; exact HSN.out)
        try simp only [Nat.zero_mul, Nat.one_mul, Nat.zero_add] at i0 i1 i2 j0 j1 j2
        have HTG := hid (specTogether_any _ la lb apa aka apb akb npa cpa nka cka npb cpb nkb ckb _ _ w8.drew (hsa.kept (below_drew _)) (hsb.kept (below_drew _)) (ev_leaf (HSM.out (s) (by have := HSN.out; omega)).1 (HSM.out (s + 1) HSN.out).1) (by have h1 := (HSM.out (s) (by have := HSN.out; omega)).2.1; have h2 := (HSM.out (s + 1) HSN.out).2.1; omega) (by have h1 := (HSM.out (s) (by have := HSN.out; omega)).2.2; have h2 := (HSM.out (s + 1) HSN.out).2.2; omega))
        have HAP : Hid (∀ y, ((S y ∧ y < w.heap.size) ∨ (w3.heap.size ≤ y ∧ y < w4.heap.size)) ∨ w8.drew.heap.size ≤ y → (Value.slice a8 n8 c8).ownBlock ≠ some y) := by
          intro y hy e
          have h1 := HS8.out.lo y e
          have h2 := HGZ.out
          rcases hy with (h | h) | h
          · have := h.2; omega
          · omega
          · have h3 : w8.heap.size ≤ y := h
            omega
        have HTL2 : Hid ((kz.take (s)).length + (togS (tAt kz (s)) (tAt kz (s + 1))).length ≤ 1048576) := by have := HTL.out; rw [List.length_take]; show _ ≤ _; omega
        have HST : Hid (∀ (w9 : World), Below w8.drew.heap.size w8.drew w9 → SO w9 w6.heap.size (fun y => y < w6.heap.size ∧ ((S y ∧ y < w.heap.size) ∨ w.heap.size + 2 ≤ y)) (.slice a8 n8 c8) (kz.take (s)) ∧ w6.heap.size ≤ w9.heap.size) := by
          intro w9 hb
          refine ⟨HS8.out.kept (Below.then' (below_drew w8) hb (Nat.le_refl _)), ?_⟩
          have h5 : w8.heap.size ≤ w9.heap.size := hb.size
          have := HZ68.out; omega
        have HFIN : Hid (∀ (w9 wA : World) (aA : Option Addr) (nA cA : Nat) (R : Nat → Prop), Below w8.drew.heap.size w8.drew w9 → SO wA w6.heap.size R (.slice aA nA cA) (kz.take (s) ++ togS (tAt kz (s)) (tAt kz (s + 1))) → (∀ y, R y → ((S y ∧ y < w.heap.size) ∨ w.heap.size + 2 ≤ y)) → w9.grownBy wA (Value.slice a8 n8 c8).ownBlock →
            SO wA w6.heap.size (fun y => ((S y ∧ y < w.heap.size) ∨ (w.heap.size + 2 ≤ y ∧ (Value.slice aA nA cA).ownBlock ≠ some y))) (.slice aA nA cA) (kz.take (s) ++ togS (tAt kz (s)) (tAt kz (s + 1))) ∧ DrI w wA false (.slice ap np cp) (.slice ak nk ck) ∧ SO wA (w.heap.size + 2) (fun y => (S y ∧ y < w.heap.size) ∨ (w3.heap.size ≤ y ∧ y < w4.heap.size)) (.slice (some ⟨gk, 0, none⟩) n3 c3) kz) := by
          intro w9 wA aA nA cA R hb hO hR hg
          have hlo := hO.lo
          have hz := HGZ.out
          have hb2 := Below.then' (below_drew w8) hb (Nat.le_refl _)
          have hon : Only (fun y => w6.heap.size ≤ y) w9 wA := only_of_grown hg (fun x e => (HS8.out.lo x e).1)
          refine ⟨?_, (HI8.out.keep hb2).only hon (fun x h => by omega), (HK8.out.kept hb2).to hon (fun y e h => by have e' : gk = y := (by simpa [Value.ownBlock] using e); omega) (fun y hy _ h => by rcases hy with h2 | h2 <;> omega)⟩
          obtain ⟨L, P, K, h1, h2, h3⟩ := hO
          refine ⟨L, P, K, h1, fun i hi => (h2 i hi).mono (fun y hy hl => ?_), ?_⟩
          · rcases hR y hy with h | h
            · exact .inl h
            · exact .inr ⟨h, h3 y hy⟩
          · rintro y (h | h)
            · intro e; have := (hlo y e).1; have := h.2; omega
            · exact h.2
        have HRR2 : Hid (∀ y, ((y < w6.heap.size ∧ ((S y ∧ y < w.heap.size) ∨ w.heap.size + 2 ≤ y)) ∨ ((S y ∧ y < w.heap.size) ∨ (w3.heap.size ≤ y ∧ y < w4.heap.size)) ∨ w8.drew.heap.size ≤ y) ∧ True → ((S y ∧ y < w.heap.size) ∨ w.heap.size + 2 ≤ y)) := by
          have h1 := HGK.out
          have h2 := HGZ.out
          have h4 := HZ68.out
          rintro y ⟨h | (h | h) | h, -⟩
          · exact h.2
          · exact .inl h
          · right; omega
          · have h3 : w8.heap.size ≤ y := h
            right; omega
        clear hsa hsb hatK
        go_wp2_with fail
        go_cut [10] (fun x v2 => ∃ (aA : Option Addr) (nA cA : Nat), x = .slice aA nA cA ∧ Hid (SO v2 w6.heap.size (fun y => ((S y ∧ y < w.heap.size) ∨ (w.heap.size + 2 ≤ y ∧ (Value.slice aA nA cA).ownBlock ≠ some y))) (.slice aA nA cA) (kz.take (s) ++ togS (tAt kz (s)) (tAt kz (s + 1)))) ∧ Hid (DrI w v2 false (.slice ap np cp) (.slice ak nk ck)) ∧ Hid (SO v2 (w.heap.size + 2) (fun y => (S y ∧ y < w.heap.size) ∨ (w3.heap.size ≤ y ∧ y < w4.heap.size)) (.slice (some ⟨gk, 0, none⟩) n3 c3) kz))
        case first =>
          go_region_law (first
            | (go_simp; go_at_call 83; refine HTG.out.mono ?_; rintro e w9 ⟨v9, rfl, hR9, hb9⟩)
            | (refine step_append_subs rfl _ _ rfl w6.heap.size _ _ (.slice a8 n8 c8) _ (kz.take (s)) (togS (tAt kz (s)) (tAt kz (s + 1))) rfl (HST.out _ hb9).1 rfl hR9 HAP.out HTL2.out (HST.out _ hb9).2 ?_; intro vA wA hOA hgA haA; obtain ⟨aA, nA, cA, eA, -⟩ := hOA.shape; subst eA))
          all_goals (go_wp2_with fail; go_meet)
          all_goals exact ⟨aA, nA, cA, rfl, (HFIN.out _ _ _ _ _ _ hb9 hOA (fun y hy => HRR2.out y ⟨hy.1, trivial⟩) hgA).1, (HFIN.out _ _ _ _ _ _ hb9 hOA (fun y hy => HRR2.out y ⟨hy.1, trivial⟩) hgA).2.1, (HFIN.out _ _ _ _ _ _ hb9 hOA (fun y hy => HRR2.out y ⟨hy.1, trivial⟩) hgA).2.2⟩
        case rest =>
          obtain ⟨aA, nA, cA, rfl, HSA, HIA, HKA⟩ := hcut
          clear HFIN HST HAP HTG i0 i1 i2 j0 j1 j2 HS8 HI8 HK8 HTL2 HRR2
          have HZB : Hid (w6.heap.size ≤ wc.heap.size) := by
            obtain ⟨L, P, K, h1, _⟩ := HSA.out
            have hlen : 0 < (kz.take (s) ++ togS (tAt kz (s)) (tAt kz (s + 1))).length := by
              rw [List.length_append]
              have := HTP.out
              omega
            rcases h1.2 with ⟨_, h0⟩ | ⟨g, _, _, h0, h2, h3, _⟩
            · omega
            · have := (Array.getElem?_eq_some_iff.1 h3).1
              show _ ≤ _; omega
          have HRA : Hid (SubR wc (fun y => y < w6.heap.size ∧ ((S y ∧ y < w.heap.size) ∨ w.heap.size + 2 ≤ y)) (.slice (some ⟨gk, 0, none⟩) n3 c3) kz) := HKA.out.subR (fun y e h1 _ => by have e' : gk = y := (by simpa [Value.ownBlock] using e); have := HGZ.out; exact ⟨by omega, .inr h1⟩) (fun y hy _ => by
            have := HGZ.out
            have := HGK.out
            rcases hy with h | h
            · exact ⟨by have := h.2; omega, .inl h⟩
            · exact ⟨by omega, .inr (by omega)⟩)
          have HAQ : Hid (∀ y, y < w6.heap.size ∧ ((S y ∧ y < w.heap.size) ∨ w.heap.size + 2 ≤ y) → (Value.slice aA nA cA).ownBlock ≠ some y) := fun y hy e => by have := (HSA.out.lo y e).1; have := hy.1; omega
          have HDL : Hid ((kz.take (s) ++ togS (tAt kz (s)) (tAt kz (s + 1))).length + (kz.drop (s + 1 + 1)).length ≤ 1048576) := by
            have := HTL.out
            have := HLN.out
            rw [List.length_append, List.length_take, List.length_drop]; show _ ≤ _; omega
          have hzz1 : ((s : Int) + 1 + 1 : Int) ≤ (n3 : Int) := by omega
          have hzz2 : (0 : Int) ≤ ((s : Int) + 1 + 1 : Int) := by omega
          by_cases hcap : ¬ c3 = s + 1 + 1
          · have HDR := hid (HRA.out.drop (m := s + 1 + 1) (by omega))
            rw [Nat.zero_add] at HDR
            go_wp2_with (at_builtin; refine wpList_append_subs rfl _ _ rfl w6.heap.size _ (fun y => y < w6.heap.size ∧ ((S y ∧ y < w.heap.size) ∨ w.heap.size + 2 ≤ y)) (.slice aA nA cA) _ _ (kz.drop (s + 1 + 1)) rfl HSA.out rfl HDR.out HAQ.out HDL.out HZB.out ?_)
            intro v6 wD hO6 hg6 ha6
            obtain ⟨a6, n6, c6, e6, -⟩ := hO6.shape
            subst e6
            have hID := HIA.out.grow hg6 (fun x e => by have := (HSA.out.lo x e).1; have := HGZ.out; omega)
            have hSD : Sub wD (fun y => (S y ∧ y < w.heap.size) ∨ w.heap.size + 2 ≤ y) false (.slice none 0 0) (.slice a6 n6 c6) (.mk [] (kz.take s ++ (togS (tAt kz s) (tAt kz (s + 1)) ++ kz.drop (s + 1 + 1)))) := (hO6.subR (fun y _ h1 _ => .inr (by have := HGZ.out; omega)) (fun y hy _ => by
              rcases hy.1 with (h | h) | h
              · exact .inl h
              · exact .inr h.1
              · exact h.2)).sub HNE.out
            have HD2 := hid (hID.done (S := fun y => S y ∧ y < w.heap.size) hSD (fun y hy => hy.2))
            have r0 := hID.r.cell (j := 0) rfl
            have r1 := hID.r.cell (j := 1) rfl
            have r2 := hID.r.cell (j := 2) rfl
            have rf0 := hID.r.free 0
            have rf1 := hID.r.free 1
            have rf2 := hID.r.free 2
            have z0 := HD2.out.2.2.cell (j := 0) rfl
            have z1 := HD2.out.2.2.cell (j := 1) rfl
            have z2 := HD2.out.2.2.cell (j := 2) rfl
            clear hO6 hg6 ha6 hID hSD HDR
            go_wp2
            refine bodyPost_ret (v := .agg #[.bool false, .slice none 0 0, .slice a6 n6 c6]) ?_ rfl ?_
            · refine results_sub1 rfl _ _ _ rfl ?_ ?_ ?_
              · exact z0
              · exact z1
              · exact z2
            · refine ⟨_, _, _, _, _, _, _, rfl, ?_, HD2.out.2.1⟩
              rw [HF2.out]
              exact HD2.out.1.mono (fun y hy _ => hy.imp (fun h => h.1) id)
          · have hck : c3 = s + 1 + 1 := by omega
            have hnk1 : n3 = s + 1 + 1 := by omega
            have HDR : Hid (SubR wc (fun y => y < w6.heap.size ∧ ((S y ∧ y < w.heap.size) ∨ w.heap.size + 2 ≤ y)) (.slice (some ⟨gk, 0, none⟩) 0 0) (kz.drop (s + 1 + 1))) := by
              rw [List.drop_eq_nil_of_le (by rw [HLN.out]; have := HN3.out; omega)]
              exact ⟨fun _ => false, fun _ => .slice none 0 0, fun _ => .slice none 0 0, ⟨_, 0, rfl, Nat.le_refl _, by omega, fun _ => rfl, fun h => (by cases h), fun h => (by simp at h)⟩, fun i hi => (by simp at hi)⟩
            subst hck hnk1
            go_wp2_with (at_builtin; refine wpList_append_subs rfl _ _ rfl w6.heap.size _ (fun y => y < w6.heap.size ∧ ((S y ∧ y < w.heap.size) ∨ w.heap.size + 2 ≤ y)) (.slice aA nA cA) _ _ (kz.drop (s + 1 + 1)) rfl HSA.out rfl HDR.out HAQ.out HDL.out HZB.out ?_)
            intro v6 wD hO6 hg6 ha6
            obtain ⟨a6, n6, c6, e6, -⟩ := hO6.shape
            subst e6
            have hID := HIA.out.grow hg6 (fun x e => by have := (HSA.out.lo x e).1; have := HGZ.out; omega)
            have hSD : Sub wD (fun y => (S y ∧ y < w.heap.size) ∨ w.heap.size + 2 ≤ y) false (.slice none 0 0) (.slice a6 n6 c6) (.mk [] (kz.take s ++ (togS (tAt kz s) (tAt kz (s + 1)) ++ kz.drop (s + 1 + 1)))) := (hO6.subR (fun y _ h1 _ => .inr (by have := HGZ.out; omega)) (fun y hy _ => by
              rcases hy.1 with (h | h) | h
              · exact .inl h
              · exact .inr h.1
              · exact h.2)).sub HNE.out
            have HD2 := hid (hID.done (S := fun y => S y ∧ y < w.heap.size) hSD (fun y hy => hy.2))
            have r0 := hID.r.cell (j := 0) rfl
            have r1 := hID.r.cell (j := 1) rfl
            have r2 := hID.r.cell (j := 2) rfl
            have rf0 := hID.r.free 0
            have rf1 := hID.r.free 1
            have rf2 := hID.r.free 2
            have z0 := HD2.out.2.2.cell (j := 0) rfl
            have z1 := HD2.out.2.2.cell (j := 1) rfl
            have z2 := HD2.out.2.2.cell (j := 2) rfl
            clear hO6 hg6 ha6 hID hSD HDR
            go_wp2
            refine bodyPost_ret (v := .agg #[.bool false, .slice none 0 0, .slice a6 n6 c6]) ?_ rfl ?_
            · refine results_sub1 rfl _ _ _ rfl ?_ ?_ ?_
              · exact z0
              · exact z1
              · exact z2
            · refine ⟨_, _, _, _, _, _, _, rfl, ?_, HD2.out.2.1⟩
              rw [HF2.out]
              exact HD2.out.1.mono (fun y hy _ => hy.imp (fun h => h.1) id)
end Go.Proofs.Ytjplocdjbfpcgab
/-
  spec.TreeDrop.
-/
namespace Go.Proofs.Ytjplocdjbfpcgab
open Go.RowKit
theorem strip1_rootD (t : T) : strip1 t = rootD t := rfl
theorem dropV_small (ns : List NB) (k : ByteArray) : smallK ((dropV ns k).getD []) ∧ ((dropV ns k).getD []).length ≤ 100000 := by
  have h0 : smallK (([] : List NB)) ∧ ([] : List NB).length ≤ 100000 := ⟨fun i hi => by simp at hi, by simp⟩
  unfold dropV
  split
  · exact h0
  · rename_i t h
    split
    · exact layT_small (rootD_out (k := k) (okT_putIn h)).1 (by have := (dropV_size h k).2.1; omega)
    · exact h0
theorem rootD_ks1 {h : Nat} {t : T} {k : ByteArray} (g : PutIn h true t) : (rootD (dropF h t k)).ks.length ≠ 1 := by
  rcases (rootD_out (k := k) g).1 with h1 | h1
  · exact full_ks1 h1
  · rw [h1]; decide
set_option maxHeartbeats 2000000 in
set_option maxRecDepth 20000 in
theorem specTreeDrop_any (ns : List NB) (hlen : ns.length ≤ 1048576) (hsm : smallN ns) (S : Nat → Prop) (an : Option Addr) (nn cn : Nat) (k : ByteArray) (w : World) (hN : Nr w S (.slice an nn cn) ns) :
    Calls Try.prog 25 #[.agg #[.slice an nn cn], .string k] w fun e w' => STPost (dropV ns k) w e w' := by
  have h1 := hN.len.2.1
  have h2 := hN.len.2.2
  have HB0 : Hid (Below w.heap.size w ((w.alloc (.cells #[.slice an nn cn] 29)).alloc (.cells #[.slice none 0 0] 29))) := below_new (below_new (Below.refl _ _))
  have K0 : Hid (Bk ((w.alloc (.cells #[.slice an nn cn] 29)).alloc (.cells #[.slice none 0 0] 29)) (w.heap.size + 1) 29 [.slice none 0 0]) := by
    have := Bk.new (w.alloc (.cells #[.slice an nn cn] 29)) 29 [.slice none 0 0]
    show Bk _ _ _ _
    simpa using this
  have KA : Hid (Bk ((w.alloc (.cells #[.slice an nn cn] 29)).alloc (.cells #[.slice none 0 0] 29)) w.heap.size 29 [.slice an nn cn]) := (Bk.new w 29 [.slice an nn cn]).alloc _
  have a0 := KA.out.cell (j := 0) rfl
  have H0 := hid (hN.below HB0.out)
  have HLS := hid (And.intro hlen hsm)
  clear hN hlen hsm
  go_enter Try.func25, Try.ntmps25
  go_wp2_with fail
  refine (specTreeOk_any ns HLS.out.1 HLS.out.2 S an nn cn _ H0.out).mono ?_
  generalize (w.alloc (.cells #[.slice an nn cn] 29)).alloc (.cells #[.slice none 0 0] 29) = U at *
  rintro e w1 ⟨rfl, hb⟩
  have HB1 := hid (HB0.out.trans (hb.mono HB0.out.size))
  have K1 := hid (K0.out.below hb)
  have KA1 := hid (KA.out.below hb)
  have H1 := hid (H0.out.below hb)
  clear hb HB0 K0 H0 KA a0
  have HNO : Hid (∀ (X : World) (u : Value), Below w.heap.size w X → Below w.heap.size w (X.setCell ⟨w.heap.size + 1, 0, none⟩ u)) := fun X u hb => ⟨hb.os, hb.tape, hb.output, by simp [World.setCell]; exact hb.size, fun i hi => (Below.heap_setCell _ _ _ _ (show i ≠ w.heap.size + 1 by omega)).trans (hb.block i hi)⟩
  rw [spOk_eq]
  have c0 := K1.out.cell (j := 0) rfl
  have f0 := K1.out.free 0
  have d0 := (K1.out.set 0 (.slice none 0 0)).cell (j := 0) rfl
  cases hr : okT ns with
  | none =>
    have HR : Hid (dropV ns k = none) := by show _ = _; rw [dropV, hr]
    clear hr
    go_wp2
    refine bodyPost_ret (v := .tuple #[.agg #[.slice none 0 0], .bool false]) ?_ rfl ?_
    · refine results_tree2 rfl _ _ _ rfl rfl ?_
      exact d0
    · rw [HR.out]; exact ⟨_, _, _, rfl, NewK.nil _ _, HNO.out _ _ HB1.out⟩
  | some t =>
    have HR : Hid (dropV ns k = if kOk k = true then some (layT (rootD (dropF t.lv t k))) else none) := by show _ = _; rw [dropV, hr]
    cases hk : kOk k with
    | false =>
      have HR2 : Hid (dropV ns k = none) := by show _ = _; rw [HR.out, hk]; simp
      have HKO := hid (specKeyOk_is k false hk)
      clear hk HR hr
      go_wp2_with fail
      refine (HKO.out w1).mono ?_
      rintro e w2 ⟨rfl, rfl⟩
      go_wp2
      refine bodyPost_ret (v := .tuple #[.agg #[.slice none 0 0], .bool false]) ?_ rfl ?_
      · refine results_tree2 rfl _ _ _ rfl rfl ?_
        exact d0
      · rw [HR2.out]; exact ⟨_, _, _, rfl, NewK.nil _ _, HNO.out _ _ HB1.out⟩
    | true =>
      have HKO := hid (specKeyOk_is k true hk)
      have HR3 : Hid (dropV ns k = some (layT (rootD (dropF t.lv t k)))) := by show _ = _; rw [HR.out, hk]; simp
      have HOK := hid (okT_facts hr)
      have HG := hid (okT_putIn hr)
      have HRO := hid (rootD_out (k := k) (okT_putIn hr))
      have HSZ := hid (dropV_size hr k)
      have HDS : Hid (dropS t.lv t k = dropF t.lv t k) := dropS_eq t.lv true t k HG.out
      have HK1 := hid (rootD_ks1 (k := k) (okT_putIn hr))
      clear hk HR hr
      have g0 := KA1.out.cell (j := 0) rfl
      go_wp2_with fail
      refine (HKO.out w1).mono ?_
      rintro e w2 ⟨rfl, rfl⟩
      clear HKO c0 f0 d0
      go_wp2_with fail
      refine (specRoot_any ns HLS.out.1 HLS.out.2 S an nn cn w2 H1.out).mono ?_
      rintro e w3 ⟨hpost, hb⟩
      rw [HOK.out.root] at hpost
      obtain ⟨lf, ap, np, cp, ak, nk, ck, rfl, hs⟩ := hpost
      have HS3 := hid hs
      have HB3 := hid (Below.then' HB1.out hb (Nat.le_refl _))
      have K3 := hid (K1.out.below hb)
      clear hs hb K1 KA1 g0 HB1 H1
      have HB4 := hid (below_new (o := .cells #[.bool lf, .slice ap np cp, .slice ak nk ck] 55) (w := w3) (Below.refl _ _))
      have KS := hid (Bk.new w3 55 [.bool lf, .slice ap np cp, .slice ak nk ck])
      have k0 := KS.out.cell (j := 0) rfl
      have k1 := KS.out.cell (j := 1) rfl
      have k2 := KS.out.cell (j := 2) rfl
      go_wp2_with fail
      refine (specDrop_any t.lv true _ lf ap ak np cp nk ck t k _ (HS3.out.kept HB4.out) HG.out).mono ?_
      rintro e w5 ⟨l5, ap5, np5, cp5, ak5, nk5, ck5, rfl, hR5, hb5⟩
      rw [HDS.out] at hR5
      have HR5 := hid hR5
      have HB7 := hid (Below.then' (Below.then' HB3.out HB4.out (Nat.le_refl _)) hb5 (Nat.le_refl _))
      have K7 := hid ((K3.out.below HB4.out).below hb5)
      clear hR5 hb5 k0 k1 k2 KS HB4 HB3 K3 HS3
      have HT := hid (specTree_any _ l5 ap5 ak5 np5 cp5 nk5 ck5 (dropF t.lv t k) w5 HR5.out HK1.out HRO.out.1 (by have := HSZ.out.2.1; rw [strip1_rootD]; omega))
      go_wp2_with fail
      refine HT.out.mono ?_
      rintro e w8 ⟨a8, n8, c8, rfl, hN8, hb8⟩
      rw [strip1_rootD] at hN8
      have K8 := hid (K7.out.below hb8)
      have HB8 := hid (Below.then' HB7.out hb8 (Nat.le_refl _))
      have hwx : w.heap.size + 1 < w5.heap.size := K7.out.lt
      have HNN : Hid (NewK w (w8.setCell ⟨w.heap.size + 1, 0, none⟩ (.slice a8 n8 c8)) (.slice a8 n8 c8) (layT (rootD (dropF t.lv t k)))) := (NrK.to hN8 (only_set (R := fun y => y = w.heap.size + 1) rfl _) (fun y hy _ e => by have := hy.1; omega)).mono (fun y hy hl => ⟨by have := hy.1; omega, hl⟩)
      have e0 := K8.out.cell (j := 0) rfl
      have e1 := K8.out.free 0
      have d1 := (K8.out.set 0 (.slice a8 n8 c8)).cell (j := 0) rfl
      clear hN8 hb8 HT
      go_wp2
      refine bodyPost_ret (v := .tuple #[.agg #[.slice a8 n8 c8], .bool true]) ?_ rfl ?_
      · refine results_tree2 rfl _ _ _ rfl rfl ?_
        exact d1
      · rw [HR3.out]; exact ⟨_, _, _, rfl, HNN.out, HNO.out _ _ HB8.out⟩
end Go.Proofs.Ytjplocdjbfpcgab
/-
  Nodes and trees held against each other.
-/
namespace Go.Proofs.Ytjplocdjbfpcgab
open Go.RowKit
set_option maxHeartbeats 2000000 in
theorem eqNode_any (S S' : Nat → Prop) (ap ax ai ap' ax' ai' : Option Addr) (np cp nx cx ni ci np' cp' nx' cx' ni' ci' : Nat) (x y : NB) (w : World)
    (hP : Pr w S (.slice ap np cp) x.ps) (hS : Sr w S (.slice ax nx cx) x.keys) (hI : Ir w S (.slice ai ni ci) x.kids) (hP' : Pr w S' (.slice ap' np' cp') y.ps) (hS' : Sr w S' (.slice ax' nx' cx') y.keys) (hI' : Ir w S' (.slice ai' ni' ci') y.kids) :
    Calls Try.prog 69 #[.agg #[.slice ap np cp, .slice ax nx cx, .slice ai ni ci], .agg #[.slice ap' np' cp', .slice ax' nx' cx', .slice ai' ni' ci']] w fun e w' => e = .returned (.bool (decide (x = y))) ∧ Below w.heap.size w w' := by
  have HP := hid hP
  have HS := hid hS
  have HI := hid hI
  have HP' := hid hP'
  have HS' := hid hS'
  have HI' := hid hI'
  clear hP hS hI hP' hS' hI'
  have HB0 : Hid (Below w.heap.size w ((w.alloc (.cells #[.slice ap np cp, .slice ax nx cx, .slice ai ni ci] 67)).alloc (.cells #[.slice ap' np' cp', .slice ax' nx' cx', .slice ai' ni' ci'] 67))) := below_new (below_new (Below.refl _ _))
  have KA : Hid (Bk ((w.alloc (.cells #[.slice ap np cp, .slice ax nx cx, .slice ai ni ci] 67)).alloc (.cells #[.slice ap' np' cp', .slice ax' nx' cx', .slice ai' ni' ci'] 67)) w.heap.size 67 [.slice ap np cp, .slice ax nx cx, .slice ai ni ci]) := (Bk.new w 67 [.slice ap np cp, .slice ax nx cx, .slice ai ni ci]).alloc _
  have KB : Hid (Bk ((w.alloc (.cells #[.slice ap np cp, .slice ax nx cx, .slice ai ni ci] 67)).alloc (.cells #[.slice ap' np' cp', .slice ax' nx' cx', .slice ai' ni' ci'] 67)) (w.heap.size + 1) 67 [.slice ap' np' cp', .slice ax' nx' cx', .slice ai' ni' ci']) := by
    have := Bk.new (w.alloc (.cells #[.slice ap np cp, .slice ax nx cx, .slice ai ni ci] 67)) 67 [.slice ap' np' cp', .slice ax' nx' cx', .slice ai' ni' ci']
    show Bk _ _ _ _
    simpa using this
  go_enter Try.func69, Try.ntmps69
  go_wp2_with fail
  refine (eqPairS_at S S' ap ap' np np' cp cp' x.ps y.ps _ (HP.out.below HB0.out) (HP'.out.below HB0.out)).mono ?_
  generalize (w.alloc (.cells #[.slice ap np cp, .slice ax nx cx, .slice ai ni ci] 67)).alloc (.cells #[.slice ap' np' cp', .slice ax' nx' cx', .slice ai' ni' ci'] 67) = W at *
  rintro e w1 ⟨rfl, hb1⟩
  have HB1 := hid (HB0.out.trans (hb1.mono HB0.out.size))
  have KA1 := hid (KA.out.below hb1)
  have KB1 := hid (KB.out.below hb1)
  clear hb1 HB0 KA KB
  by_cases h1 : x.ps = y.ps
  · rw [decide_eq_true h1]
    have HH1 := hid h1
    clear h1
    have c0 := KA1.out.cell (j := 1) rfl
    have d0 := KB1.out.cell (j := 1) rfl
    go_wp2_with fail
    refine (eqStringS_at S S' ax ax' nx nx' cx cx' x.keys y.keys _ (HS.out.below HB1.out) (HS'.out.below HB1.out)).mono ?_
    rintro e w2 ⟨rfl, hb2⟩
    have HB2 := hid (HB1.out.trans (hb2.mono HB1.out.size))
    have KA2 := hid (KA1.out.below hb2)
    have KB2 := hid (KB1.out.below hb2)
    clear hb2 HB1 KA1 KB1 c0 d0
    by_cases h2 : x.keys = y.keys
    · rw [decide_eq_true h2]
      have HH2 := hid h2
      clear h2
      have c0 := KA2.out.cell (j := 2) rfl
      have d0 := KB2.out.cell (j := 2) rfl
      go_wp2_with fail
      refine (eqIntS_at S S' ai ai' ni ni' ci ci' x.kids y.kids _ (HI.out.below HB2.out) (HI'.out.below HB2.out)).mono ?_
      rintro e w3 ⟨rfl, hb3⟩
      have HB3 := hid (HB2.out.trans (hb3.mono HB2.out.size))
      clear hb3 HB2 KA2 KB2 c0 d0
      by_cases h3 : x.kids = y.kids
      · rw [decide_eq_true h3]
        have HF : Hid (decide (x = y) = true) := by
          show _ = _
          rw [decide_eq_true_eq]
          have e1 := HH1.out
          have e2 := HH2.out
          cases x; cases y; simp_all
        clear h3
        go_wp2
        go_ret
        exact ⟨by rw [HF.out]; rfl, HB3.out⟩
      · rw [decide_eq_false h3]
        have HF : Hid (decide (x = y) = false) := by
          show _ = _
          rw [decide_eq_false_iff_not]
          rintro rfl
          exact h3 rfl
        clear h3
        go_wp2
        go_ret
        exact ⟨by rw [HF.out]; rfl, HB3.out⟩
    · rw [decide_eq_false h2]
      have HF : Hid (decide (x = y) = false) := by
        show _ = _
        rw [decide_eq_false_iff_not]
        rintro rfl
        exact h2 rfl
      clear h2
      go_wp2
      go_ret
      exact ⟨by rw [HF.out]; rfl, HB2.out⟩
  · rw [decide_eq_false h1]
    have HF : Hid (decide (x = y) = false) := by
      show _ = _
      rw [decide_eq_false_iff_not]
      rintro rfl
      exact h1 rfl
    clear h1
    go_wp2
    go_ret
    exact ⟨by rw [HF.out]; rfl, HB1.out⟩
set_option maxHeartbeats 4000000 in
theorem eqNodeS_at (S S' : Nat → Prop) (a a' : Option Addr) (n n' c c' : Nat) (l l' : List NB) (w : World) (h : Nr w S (.slice a n c) l) (h' : Nr w S' (.slice a' n' c') l') :
    Calls Try.prog 41 #[.slice a n c, .slice a' n' c'] w fun e w' => e = .returned (.bool (decide (l = l'))) ∧ Below w.heap.size w w' := by
  obtain ⟨hn, hnc, hcc⟩ := h.len
  obtain ⟨hn', hnc', hcc'⟩ := h'.len
  have HN := hid hn
  have HN' := hid hn'
  have H0 := hid h
  have H0' := hid h'
  clear h h' hn hn'
  by_cases hne : n = n'
  · subst hne
    have hz : ((n : Int) != (n : Int)) = false := by simp
    go_enter Try.func41, Try.ntmps41
    go_wp2
    go_loopw [5] (fun i wr => ∃ k : Nat, k ≤ n ∧ i = .int .i64 k ∧ Hid (Below w.heap.size w wr) ∧ Hid (l.take k = l'.take k)) (fun i _ => n - (intOf i).toNat)
    case atStart => exact ⟨0, Nat.zero_le _, rfl, Below.refl _ _, rfl⟩
    case round =>
      obtain ⟨k, hk, rfl, HB, HT⟩ := hrel
      by_cases hlt : k < n
      · have hlt' : (k : Int) < (n : Int) := by omega
        have HP := hid (H0.out.below HB.out)
        have HP' := hid (H0'.out.below HB.out)
        obtain ⟨b, off, rfl, _, hbw, hcell⟩ := HP.out.at (by omega)
        obtain ⟨b', off', rfl, _, hbw', hcell'⟩ := HP'.out.at (by omega)
        obtain ⟨ap, np, cp, ax, nx, cx, ai, ni, ci, c0, c1, c2, hp, hx, hi⟩ := hcell k hlt
        obtain ⟨ap', np', cp', ax', nx', cx', ai', ni', ci', d0, d1, d2, hp', hx', hi'⟩ := hcell' k hlt
        have HC : Hid (∀ v, Below wr.heap.size wr v → Calls Try.prog 69 #[.agg #[.slice ap np cp, .slice ax nx cx, .slice ai ni ci], .agg #[.slice ap' np' cp', .slice ax' nx' cx', .slice ai' ni' ci']] v fun e w' => e = .returned (.bool (decide (nAt l k = nAt l' k))) ∧ Below v.heap.size v w') := fun v hv =>
          eqNode_any S S' ap ax ai ap' ax' ai' np cp nx cx ni ci np' cp' nx' cx' ni' ci' (nAt l k) (nAt l' k) v (hp.below hv) (hx.below hv) (hi.below hv) (hp'.below hv) (hx'.below hv) (hi'.below hv)
        have HS : Hid (nAt l k = nAt l' k → l.take (k + 1) = l'.take (k + 1)) := by
          intro e
          have hl : k < l.length := by rw [← HN.out]; exact hlt
          have hl' : k < l'.length := by rw [← HN'.out]; exact hlt
          rw [List.take_succ_eq_append_getElem hl, List.take_succ_eq_append_getElem hl', HT.out]
          simp [nAt, hl, hl'] at e
          rw [e]
        have HF : Hid (nAt l k ≠ nAt l' k → decide (l = l') = false) := by
          intro e
          rw [decide_eq_false_iff_not]
          intro e'
          exact e (by rw [e'])
        have T0 := hid (kc0_6 c0 c1 c2 d0 d1 d2)
        clear hcell hcell' hbw hbw' HP HP' HT hp hx hi hp' hx' hi' c0 c1 c2 d0 d1 d2
        generalize nAt l k = cx1 at *
        generalize nAt l' k = cx2 at *
        by_cases he : cx1 = cx2
        · have HS1 := hid (HS.out he)
          rw [decide_eq_true he] at HC
          clear he HS HF
          go_wp2_with fail
          go_region_held3 (fun v => v.cell? ⟨b, off + k * 3, none⟩ = some (.slice ap np cp) ∧ v.cell? ⟨b, off + k * 3 + 1, none⟩ = some (.slice ax nx cx) ∧ v.cell? ⟨b, off + k * 3 + 2, none⟩ = some (.slice ai ni ci) ∧ v.cell? ⟨b', off' + k * 3, none⟩ = some (.slice ap' np' cp') ∧ v.cell? ⟨b', off' + k * 3 + 1, none⟩ = some (.slice ax' nx' cx') ∧ v.cell? ⟨b', off' + k * 3 + 2, none⟩ = some (.slice ai' ni' ci') ∧ KC wr v [(⟨b, off + k * 3, none⟩, .slice ap np cp), (⟨b, off + k * 3 + 1, none⟩, .slice ax nx cx), (⟨b, off + k * 3 + 2, none⟩, .slice ai ni ci), (⟨b', off' + k * 3, none⟩, .slice ap' np' cp'), (⟨b', off' + k * 3 + 1, none⟩, .slice ax' nx' cx'), (⟨b', off' + k * 3 + 2, none⟩, .slice ai' ni' ci')])
            (first | assumption | exact kc6 (T0.out.call (below_drew _)) | exact kc6c hbC (by assumption))
            (first | (go_at_call 69; refine (HC.out _ (KC.bel (by first | exact (by assumption : _ ∧ _ ∧ _ ∧ _ ∧ _ ∧ _ ∧ _).2.2.2.2.2.2))).mono ?_; rintro e w' ⟨rfl, hbC⟩))
          all_goals (rename_i hS; have HB1 := hid (Below.then' HB.out hS.2.2.2.2.2.2.bel (Nat.le_refl _)); clear hS; go_wp2)
          go_roundw
          case rel => exact ⟨k + 1, by omega, by go_num, HB1.out, HS1.out⟩
          case measure => simp [intOf]; omega
        · have HF1 := hid (HF.out he)
          rw [decide_eq_false he] at HC
          clear he HS HF
          go_wp2_with fail
          go_region_held3 (fun v => v.cell? ⟨b, off + k * 3, none⟩ = some (.slice ap np cp) ∧ v.cell? ⟨b, off + k * 3 + 1, none⟩ = some (.slice ax nx cx) ∧ v.cell? ⟨b, off + k * 3 + 2, none⟩ = some (.slice ai ni ci) ∧ v.cell? ⟨b', off' + k * 3, none⟩ = some (.slice ap' np' cp') ∧ v.cell? ⟨b', off' + k * 3 + 1, none⟩ = some (.slice ax' nx' cx') ∧ v.cell? ⟨b', off' + k * 3 + 2, none⟩ = some (.slice ai' ni' ci') ∧ KC wr v [(⟨b, off + k * 3, none⟩, .slice ap np cp), (⟨b, off + k * 3 + 1, none⟩, .slice ax nx cx), (⟨b, off + k * 3 + 2, none⟩, .slice ai ni ci), (⟨b', off' + k * 3, none⟩, .slice ap' np' cp'), (⟨b', off' + k * 3 + 1, none⟩, .slice ax' nx' cx'), (⟨b', off' + k * 3 + 2, none⟩, .slice ai' ni' ci')])
            (first | assumption | exact kc6 (T0.out.call (below_drew _)) | exact kc6c hbC (by assumption))
            (first | (go_at_call 69; refine (HC.out _ (KC.bel (by first | exact (by assumption : _ ∧ _ ∧ _ ∧ _ ∧ _ ∧ _ ∧ _).2.2.2.2.2.2))).mono ?_; rintro e w' ⟨rfl, hbC⟩))
          all_goals (rename_i hS; have HB1 := hid (Below.then' HB.out hS.2.2.2.2.2.2.bel (Nat.le_refl _)); clear hS; go_wp2)
          go_ret
          exact ⟨by rw [HF1.out]; rfl, HB1.out⟩
      · have HF : Hid (decide (l = l') = true) := by
          show decide (l = l') = true
          have hk' : k = n := by omega
          have e := HT.out
          have e1 : l.length ≤ k := by rw [← HN.out]; omega
          have e2 : l'.length ≤ k := by rw [← HN'.out]; omega
          rw [List.take_of_length_le e1, List.take_of_length_le e2] at e
          simp [e]
        clear HT
        go_wp2
        go_ret
        exact ⟨by rw [HF.out]; rfl, HB.out⟩
  · have hz : ((n : Int) != (n' : Int)) = true := by simp; omega
    have HF : Hid (decide (l = l') = false) := by
      show decide (l = l') = false
      rw [decide_eq_false_iff_not]
      intro e
      exact hne (by rw [HN.out, HN'.out, e])
    clear hne
    go_enter Try.func41, Try.ntmps41
    go_wp2
    go_ret
    exact ⟨by rw [HF.out]; rfl, Below.refl _ _⟩
set_option maxHeartbeats 2000000 in
theorem eqTree_at (S S' : Nat → Prop) (a a' : Option Addr) (n n' c c' : Nat) (l l' : List NB) (w : World) (h : Nr w S (.slice a n c) l) (h' : Nr w S' (.slice a' n' c') l') :
    Calls Try.prog 13 #[.agg #[.slice a n c], .agg #[.slice a' n' c']] w fun e w' => e = .returned (.bool (decide (l = l'))) ∧ Below w.heap.size w w' := by
  have H0 := hid h
  have H0' := hid h'
  clear h h'
  have HB0 : Hid (Below w.heap.size w ((w.alloc (.cells #[.slice a n c] 29)).alloc (.cells #[.slice a' n' c'] 29))) := below_new (below_new (Below.refl _ _))
  go_enter Try.func13, Try.ntmps13
  go_wp2_with fail
  refine (eqNodeS_at S S' a a' n n' c c' l l' _ (H0.out.below HB0.out) (H0'.out.below HB0.out)).mono ?_
  rintro e w1 ⟨rfl, hb1⟩
  have HB1 := hid (HB0.out.trans (hb1.mono HB0.out.size))
  clear hb1 HB0
  by_cases he : l = l'
  · have HE := hid (decide_eq_true he)
    rw [decide_eq_true he]
    clear he
    go_wp2
    go_ret
    exact ⟨by rw [HE.out]; rfl, HB1.out⟩
  · have HE := hid (decide_eq_false he)
    rw [decide_eq_false he]
    clear he
    go_wp2
    go_ret
    exact ⟨by rw [HE.out]; rfl, HB1.out⟩
end Go.Proofs.Ytjplocdjbfpcgab
/-
  Nodes and trees in the law's helpers: sizes summed, held against each other.
-/
namespace Go.Proofs.Ytjplocdjbfpcgab
open Go.RowKit

def szOkN (ns : List NB) : Prop := ∀ i, i < ns.length → szOkP (nAt ns i).ps ∧ szOkS (nAt ns i).keys
set_option maxHeartbeats 2000000 in
theorem szNode_any (S : Nat → Prop) (ap ax ai : Option Addr) (np cp nx cx ni ci : Nat) (x : NB) (left : Int) (w : World) (hP : Pr w S (.slice ap np cp) x.ps) (hS : Sr w S (.slice ax nx cx) x.keys) (hI : Ir w S (.slice ai ni ci) x.kids)
    (z0 : szOkP x.ps) (z1 : szOkS x.keys) (h0 : 0 ≤ left) (h1 : left ≤ 1048576) :
    Calls Try.prog 63 #[.agg #[.slice ap np cp, .slice ax nx cx, .slice ai ni ci], .int .i64 left] w fun e w' => (∃ y : Int, e = .returned (.int .i64 y) ∧ y ≤ left ∧ -1 ≤ y ∧ (0 ≤ y → np ≤ 1048576 ∧ nx ≤ 1048576 ∧ ni ≤ 1048576)) ∧ Below w.heap.size w w' := by
  have hnc := (Rw.len hI).2.1
  have hcc := (Rw.len hI).2.2
  have HP := hid hP
  have HS := hid hS
  have HZ0 := hid z0
  have HZ1 := hid z1
  clear hP hS hI z0 z1
  have HB0 : Hid (Below w.heap.size w (w.alloc (.cells #[.slice ap np cp, .slice ax nx cx, .slice ai ni ci] 93))) := below_new (Below.refl _ _)
  have KP : Hid (Bk (w.alloc (.cells #[.slice ap np cp, .slice ax nx cx, .slice ai ni ci] 93)) w.heap.size 93 [.slice ap np cp, .slice ax nx cx, .slice ai ni ci]) := Bk.new w 93 [.slice ap np cp, .slice ax nx cx, .slice ai ni ci]
  go_enter Try.func63, Try.ntmps63
  go_wp2_with fail
  refine (szPairS_at S ap np cp x.ps left _ (HP.out.below HB0.out) HZ0.out h0 h1).mono ?_
  generalize w.alloc (.cells #[.slice ap np cp, .slice ax nx cx, .slice ai ni ci] 93) = W at *
  rintro e w1 ⟨⟨y, rfl, hy1, hy2, hy3⟩, hb1⟩
  have HB1 := hid (HB0.out.trans (hb1.mono HB0.out.size))
  have KP1 := hid (KP.out.below hb1)
  have HY := hid hy3
  clear hb1 KP HB0 hy3
  by_cases hneg : y < 0
  · go_wp2
    go_ret
    exact ⟨⟨_, rfl, by omega, by omega, fun h => by omega⟩, HB1.out⟩
  · have c1 := KP1.out.cell (j := 1) rfl
    go_wp2_with fail
    refine (szStringS_at S ax nx cx x.keys y _ (HS.out.below HB1.out) HZ1.out (by omega) (by omega)).mono ?_
    rintro e w2 ⟨⟨z, rfl, hz1, hz2, hz3⟩, hb2⟩
    have HB2 := hid (HB1.out.trans (hb2.mono HB1.out.size))
    have KP2 := hid (KP1.out.below hb2)
    have HZ := hid hz3
    clear hb2 KP1 HB1 hz3 c1
    by_cases hneg2 : z < 0
    · go_wp2
      go_ret
      exact ⟨⟨_, rfl, by omega, by omega, fun h => by omega⟩, HB2.out⟩
    · have c2 := KP2.out.cell (j := 2) rfl
      go_wp2_with fail
      refine (szIntS_at ai ni ci z _ (by omega) (by omega) (by omega)).mono ?_
      rintro e w3 ⟨⟨v, rfl, hv1, hv2, hv3⟩, hb3⟩
      have HB3 := hid (HB2.out.trans (hb3.mono HB2.out.size))
      have HV := hid hv3
      clear hb3 KP2 HB2 hv3 c2
      by_cases hneg3 : v < 0
      · go_wp2
        go_ret
        exact ⟨⟨_, rfl, by omega, by omega, fun h => by omega⟩, HB3.out⟩
      · go_wp2
        go_ret
        exact ⟨⟨_, rfl, by omega, by omega, fun _ => ⟨HY.out (by omega), HZ.out (by omega), HV.out (by omega)⟩⟩, HB3.out⟩
set_option maxHeartbeats 2000000 in
theorem szNodeS_at (S : Nat → Prop) (a : Option Addr) (n c : Nat) (ns : List NB) (w : World) (h : Nr w S (.slice a n c) ns) (hsz : szOkN ns) :
    Calls Try.prog 31 #[.slice a n c, .int .i64 1048576] w fun e w' => (∃ x : Int, e = .returned (.int .i64 x) ∧ x ≤ 1048576 ∧ -1 ≤ x ∧ (0 ≤ x → n ≤ 1048576 ∧ smallN ns)) ∧ Below w.heap.size w w' := by
  obtain ⟨hn, hnc, hcc⟩ := h.len
  have HN := hid hn
  have H0 := hid h
  have HZ := hid hsz
  clear h hsz hn
  by_cases hbig : (1048576 : Int) - (n : Int) < 0
  · go_enter Try.func31, Try.ntmps31
    go_wp2
    go_ret
    exact ⟨⟨_, rfl, by omega, by omega, fun h => by omega⟩, Below.refl _ _⟩
  · have hn2 : n ≤ 1048576 := by omega
    go_enter Try.func31, Try.ntmps31
    go_wp2
    go_loopw [1, 5] (fun x i wr => ∃ (k : Nat) (y : Int), k ≤ n ∧ i = .int .i64 k ∧ x = .int .i64 y ∧ 0 ≤ y ∧ y ≤ 1048576 ∧ Hid (∀ i, i < k → (nAt ns i).ps.length ≤ 1048576 ∧ (nAt ns i).keys.length ≤ 1048576 ∧ (nAt ns i).kids.length ≤ 1048576) ∧ Hid (Below w.heap.size w wr)) (fun _ i _ => n - (intOf i).toNat)
    case atStart => exact ⟨0, _, Nat.zero_le _, rfl, rfl, by omega, by omega, fun i hi => absurd hi (Nat.not_lt_zero _), Below.refl _ _⟩
    case round =>
      obtain ⟨k, y, hk, rfl, rfl, hy0, hy1, HS, HB⟩ := hrel
      by_cases hlt : k < n
      · have hlt' : (k : Int) < (n : Int) := by omega
        have HP := hid (H0.out.below HB.out)
        obtain ⟨b, off, rfl, _, hbw, hcell⟩ := HP.out.at (by omega)
        obtain ⟨ap, np, cp, ax, nx, cx, ai, ni, ci, c0, c1, c2, hp, hx, hi⟩ := hcell k hlt
        have HPp := hid hp
        have HPx := hid hx
        have HPi := hid hi
        have l0 := hid (Rw.len hp).1
        have l1 := hid (Rw.len hx).1
        have l2 := hid (Rw.len hi).1
        clear hcell hbw HP hp hx hi
        go_wp2_with fail
        refine (szNode_any S ap ax ai np cp nx cx ni ci (nAt ns k) y wr HPp.out HPx.out HPi.out (HZ.out k (by rw [← HN.out]; exact hlt)).1 (HZ.out k (by rw [← HN.out]; exact hlt)).2 hy0 hy1).mono ?_
        rintro e w1 ⟨⟨z, rfl, hz1, hz2, hz3⟩, hb1⟩
        have HB1 := hid (HB.out.trans (hb1.mono HB.out.size))
        have HZ3 := hid hz3
        clear hb1 hz3 c0 c1 c2
        by_cases hneg : z < 0
        · go_wp2
          go_ret
          exact ⟨⟨_, rfl, by omega, by omega, fun h => by omega⟩, HB1.out⟩
        · have HS1 : Hid (∀ i, i < k + 1 → (nAt ns i).ps.length ≤ 1048576 ∧ (nAt ns i).keys.length ≤ 1048576 ∧ (nAt ns i).kids.length ≤ 1048576) := by
            intro i hi
            by_cases e : i = k
            · subst e
              rw [← l0.out, ← l1.out, ← l2.out]
              exact HZ3.out (by omega)
            · exact HS.out i (by omega)
          go_wp2
          go_roundw
          case rel => exact ⟨k + 1, z, by omega, by go_num, rfl, by omega, by omega, HS1.out, HB1.out⟩
          case measure => simp [intOf]; omega
      · have hk' : k = n := by omega
        have HS1 : Hid (smallN ns) := fun i hi => HS.out i (by rw [hk', HN.out]; exact hi)
        clear hk'
        go_wp2
        go_ret
        exact ⟨⟨_, rfl, by omega, by omega, fun _ => ⟨hn2, HS1.out⟩⟩, HB.out⟩
set_option maxHeartbeats 2000000 in
theorem szTree_at (S : Nat → Prop) (a : Option Addr) (n c : Nat) (ns : List NB) (w : World) (h : Nr w S (.slice a n c) ns) (hsz : szOkN ns) :
    Calls Try.prog 9 #[.agg #[.slice a n c], .int .i64 1048576] w fun e w' => (∃ x : Int, e = .returned (.int .i64 x) ∧ x ≤ 1048576 ∧ -1 ≤ x ∧ (0 ≤ x → n ≤ 1048576 ∧ smallN ns)) ∧ Below w.heap.size w w' := by
  have H0 := hid h
  have HZ := hid hsz
  clear h hsz
  have HB0 : Hid (Below w.heap.size w (w.alloc (.cells #[.slice a n c] 24))) := below_new (Below.refl _ _)
  go_enter Try.func9, Try.ntmps9
  go_wp2_with fail
  refine (szNodeS_at S a n c ns _ (H0.out.below HB0.out) HZ.out).mono ?_
  rintro e w1 ⟨⟨y, rfl, hy1, hy2, hy3⟩, hb1⟩
  have HB1 := hid (HB0.out.trans (hb1.mono HB0.out.size))
  have HY := hid hy3
  clear hb1 hy3 HB0
  by_cases hneg : y < 0
  · go_wp2
    go_ret
    exact ⟨⟨_, rfl, by omega, by omega, fun h => by omega⟩, HB1.out⟩
  · go_wp2
    go_ret
    exact ⟨⟨_, rfl, by omega, by omega, HY.out⟩, HB1.out⟩
end Go.Proofs.Ytjplocdjbfpcgab
/-
  What the laws of trees carry along: the argument as it was, and what lies behind the answers.
-/
namespace Go.Proofs.Ytjplocdjbfpcgab
open Go.RowKit
structure TB (w v : World) (a : Option Addr) (n c : Nat) (ns : List NB) : Prop where
  bel : Below w.heap.size w v
  kA : Bk v w.heap.size 24 [.slice a n c]
  hA : Nr v (fun b => b < w.heap.size) (.slice a n c) ns
theorem TB.below {w v v' : World} {a : Option Addr} {n c : Nat} {ns : List NB} (h : TB w v a n c ns) (hb : Below v.heap.size v v') : TB w v' a n c ns := ⟨Below.then' h.bel hb (Nat.le_refl _), h.kA.below hb, h.hA.below hb⟩
theorem TB.only {w v v' : World} {a : Option Addr} {n c : Nat} {ns : List NB} (h : TB w v a n c ns) {R : Nat → Prop} (ho : Only R v v') (hR : ∀ b, R b → w.heap.size < b) : TB w v' a n c ns :=
  ⟨h.bel.trans (ho.below h.bel.size (fun b hb hr => by have := hR b hr; omega)), h.kA.to ho (fun hr => by have := hR _ hr; omega), h.hA.to ho (fun b hb _ hr => by have := hR b hr; omega)⟩
theorem TB.start {w : World} {a : Option Addr} {n c : Nat} {ns : List NB} (h : Nr w (fun _ => True) (.slice a n c) ns) : TB w (w.alloc (.cells #[.slice a n c] 24)) a n c ns := by
  have hb := below_new (o := .cells #[.slice a n c] 24) (w := w) (Below.refl _ _)
  exact ⟨hb, Bk.new w _ [_], (h.mono (fun b _ hb => hb)).below hb⟩
theorem TB.cell {w v : World} {a : Option Addr} {n c : Nat} {ns : List NB} (h : TB w v a n c ns) : v.cell? ⟨w.heap.size, 0, none⟩ = some (.slice a n c) := h.kA.cell (j := 0) rfl
theorem TB.lt {w v : World} {a : Option Addr} {n c : Nat} {ns : List NB} (h : TB w v a n c ns) : w.heap.size < v.heap.size := h.kA.lt
/-- An owned row may be written. -/
theorem own_uf {w : World} {base : Nat} {e : TypeId} {size : Nat} {v : Value} {n : Nat} {xs : List Value} (h : w.ownsRow base e size v n xs) {k : Nat} (hk : v.ownBlock = some k) : Uf w k := by
  rcases h.2 with ⟨rfl, _⟩ | ⟨g, cap, cur, rfl, h3, h4, h5, h6, h7, h8⟩
  · cases hk
  · cases hk
    exact ⟨_, _, h4⟩
theorem Ow.kw {w : World} {base : Nat} {v : Value} {l : List PB} (h : Ow w base v l) : Kw w (fun b => base ≤ b) v l.length (l.length * 2) isStr := by
  have := kw_of (S' := fun b => base ≤ b) (K := isStr) (h.pr (S := fun b => base ≤ b ∧ Uf w b) (fun k hk hb _ => ⟨hb, own_uf h hk⟩)) (fun u hu => pcs_str _ u hu) (fun b hb _ => hb)
  rwa [pcs_length] at this
theorem kb_nr {u v : World} {p0 p1 : Addr} {x0 x1 : Value} {S : Nat → Prop} {y : Value} {ns : List NB} (h : v.cell? p0 = some x0 ∧ v.cell? p1 = some x1 ∧ KC u v [(p0, x0), (p1, x1)]) (hN : Nr u S y ns) : Nr v S y ns := hN.below h.2.2.bel
theorem kb_nr' {u v v' : World} {p0 p1 : Addr} {x0 x1 : Value} {S : Nat → Prop} {y : Value} {ns : List NB} (hb : Below v.heap.size v v') (h : v.cell? p0 = some x0 ∧ v.cell? p1 = some x1 ∧ KC u v [(p0, x0), (p1, x1)]) (hN : Nr u S y ns) : Nr v' S y ns := (kb_nr h hN).below hb
end Go.Proofs.Ytjplocdjbfpcgab
/-
  The law FnExactTreeDrop answers true at every tree and text.
-/
namespace Go.Proofs.Ytjplocdjbfpcgab
open Go.RowKit
set_option maxHeartbeats 8000000 in
set_option maxRecDepth 20000 in
theorem lawTreeDrop_walk (a : Option Addr) (n c : Nat) (ns : List NB) (k : ByteArray) (w : World) (h : Nr w (fun _ => True) (.slice a n c) ns ∧ szOkN ns) (hk : k.size ≤ maxLen) :
    Calls Try.prog 7 #[.agg #[.slice a n c], .string k] w fun e w' => e = .returned (.bool true) ∧ Below w.heap.size w w' := by
  have HN := hid h.1.len.1
  have T0 := hid (TB.start h.1)
  have HZ := hid h.2
  clear h
  unfold maxLen at hk
  by_cases hbigk : 1048576 < k.size
  · have hbig' : (1048576 : Int) < (k.size : Int) := by omega
    go_enter Try.func7, Try.ntmps7
    go_wp2
    go_ret
    exact ⟨rfl, T0.out.bel⟩
  have hbigk' : ¬ (1048576 : Int) < (k.size : Int) := by omega

  go_enter Try.func7, Try.ntmps7
  go_wp2_with fail
  refine (szTree_at _ a n c ns _ T0.out.hA HZ.out).mono ?_
  generalize w.alloc (.cells #[.slice a n c] 24) = U at *
  rintro e w1 ⟨⟨x, rfl, hx1, hx2, hx3⟩, hb⟩
  have T1 := hid (T0.out.below hb)
  have HX := hid hx3
  clear hb hx3 T0 HZ
  by_cases hneg : x < 0
  · go_wp2
    go_ret
    exact ⟨rfl, T1.out.bel⟩
  · have HM := hid (HX.out (by omega)).1
    have HS := hid (HX.out (by omega)).2
    have HL : Hid (ns.length ≤ 1048576) := by show _ ≤ _; rw [← HN.out]; exact HM.out
    have HPO := hid (dropV_small ns k)
    have HSP := hid (fun (w' : World) (S : Nat → Prop) (g : Option Addr) (h' : Nr w' S (.slice g n n) ns) => specTreeDrop_any ns HL.out HS.out S g n n k w' h')
    have HIM := hid (fun (w' : World) (S : Nat → Prop) (g : Option Addr) (h' : Nr w' S (.slice g n n) ns) => implTreeDrop_any S g n n ns k w' h')
    generalize dropV ns k = o at *
    have hbb : (o.isSome != o.isSome) = false := by cases o <;> rfl
    have HBB := hid hbb
    generalize hms : o.getD [] = ms at *
    have HMS := hid hms
    clear hms
    have c1 := T1.out.cell
    clear HX hbb
    go_wp2_with fail
    refine (toTree_at _ a n c ns _ T1.out.hA HM.out HS.out).mono ?_
    rintro e w2 ⟨g2, rfl, hN2, hb⟩
    have T2 := hid (T1.out.below hb)
    have HN2 := hid hN2
    clear hb hN2 T1 c1
    go_wp2_with fail
    refine (HSP.out _ _ _ HN2.out).mono ?_
    rintro e w3 ⟨a0, n0, c0, rfl, hP, hb⟩
    rw [HMS.out] at hP
    have T3 := hid (T2.out.below hb)
    have P3 : Hid (Nr w3 (fun y => y < w3.heap.size) (.slice a0 n0 c0) ms) := Nr.mono (NewK.new hP) (fun y hy _ => hy.2)
    clear hb T2 HN2 hP HSP
    have hb := below_new (o := .cells #[.slice a0 n0 c0] 29) (w := w3) (Below.refl _ _)
    have T4 := hid (T3.out.below hb)
    have P4 := hid (P3.out.below hb)
    have KW4 := hid (Bk.new w3 29 [.slice a0 n0 c0])
    have c4 := T4.out.cell
    clear hb T3 P3
    go_wp2_with fail
    refine (toTree_at _ a n c ns _ T4.out.hA HM.out HS.out).mono ?_
    generalize w3.alloc (.cells #[.slice a0 n0 c0] 29) = w4 at *
    rintro e w5 ⟨g5, rfl, hN5, hb⟩
    have T5 := hid (T4.out.below hb)
    have P5 := hid (P4.out.below hb)
    have KW5 := hid (KW4.out.below hb)
    obtain ⟨V, hV⟩ := nk_of (S' := fun b => w4.heap.size ≤ b ∧ b < w5.heap.size) hN5 HS.out (fun b h1 h2 => ⟨⟨h1.1, h2⟩, h1.2⟩)
    rw [← HN.out] at hV
    have HV5 := hid hV
    have HX5 : Hid (Nr w5 (fun b => w4.heap.size ≤ b ∧ b < w5.heap.size) (.slice (some ⟨g5, 0, none⟩) n n) ns) := hN5.mono (fun b h1 h2 => ⟨h1.1, h2⟩)
    have S34 := hid KW4.out.lt
    have S45 := hid hb.size
    have S04 := hid T4.out.lt
    clear hb hN5 T4 P4 c4 hV KW4
    have hb := below_new (o := .cells #[.slice (some ⟨g5, 0, none⟩) n n] 29) (w := w5) (Below.refl _ _)
    have T6 := hid (T5.out.below hb)
    have P6 := hid (P5.out.below hb)
    have KW6 := hid (KW5.out.below hb)
    have HV6 := hid (HV5.out.below hb)
    have HX6 := hid (HX5.out.below hb)
    have KX6 := hid (Bk.new w5 29 [.slice (some ⟨g5, 0, none⟩) n n])
    have S56 : Hid (w5.heap.size < (w5.alloc (.cells #[.slice (some ⟨g5, 0, none⟩) n n] 29)).heap.size) := KX6.out.lt
    clear hb T5 P5 HV5 HX5 KW5
    have x6 := KX6.out.cell (j := 0) rfl
    go_wp2_with fail
    refine (HIM.out _ _ _ HX6.out).mono ?_
    generalize w5.alloc (.cells #[.slice (some ⟨g5, 0, none⟩) n n] 29) = w6 at *
    rintro e w7 ⟨vg, rfl, hG, hb⟩
    rw [HMS.out] at hG
    obtain ⟨ag, ng, cg, hvg, -⟩ := hG.shape
    subst hvg
    obtain ⟨VG, hG1, hG2, hG3⟩ := hG
    have G7 := hid hG1
    have HGV := hid hG2
    have HGB := hid hG3
    have T7 := hid (T6.out.below hb)
    have P7 := hid (P6.out.below hb)
    have KW7 := hid (KW6.out.below hb)
    have HV7 := hid (HV6.out.below hb)
    have HX7 := hid (HX6.out.below hb)
    have KX7 := hid (KX6.out.below hb)
    have S67 := hid hb.size
    clear hb hG1 hG2 hG3 T6 P6 KW6 HV6 HX6 KX6 x6
    have hb := below_new (o := .cells #[.slice ag ng cg] 29) (w := w7) (Below.refl _ _)
    have T8 := hid (T7.out.below hb)
    have P8 := hid (P7.out.below hb)
    have KW8 := hid (KW7.out.below hb)
    have HV8 := hid (HV7.out.below hb)
    have HX8 := hid (HX7.out.below hb)
    have KX8 := hid (KX7.out.below hb)
    have G8 := hid (G7.out.kept hb)
    have KG8 := hid (Bk.new w7 29 [.slice ag ng cg])
    have S78 : Hid (w7.heap.size < (w7.alloc (.cells #[.slice ag ng cg] 29)).heap.size) := KG8.out.lt
    have HGL : Hid (∀ i, i < ms.length → ∀ y, bl (vAt VG i) y → w6.heap.size ≤ y ∧ y < w7.heap.size) := fun i hi y hy => ⟨HGB.out i hi y hy, (G7.out.own i hi).1.lt hy⟩
    clear hb T7 P7 KW7 HV7 HX7 KX7 G7 HGB
    have y8 := KW8.out.cell (j := 0) rfl
    have z8 := KG8.out.cell (j := 0) rfl
    have NG8 := hid (G8.out.nr (S := fun _ => True) (fun _ _ => trivial))
    have hbb := HBB.out
    go_wp2_with fail
    refine (eqTree_at (fun _ => True) _ _ _ _ _ _ _ ms ms _ NG8.out P8.out).mono ?_
    generalize w7.alloc (.cells #[.slice ag ng cg] 29) = w8 at *
    rintro e w9 ⟨rfl, hb⟩
    rw [decide_eq_true rfl]
    have T9 := hid (T8.out.below hb)
    have P9 := hid (P8.out.below hb)
    have KW9 := hid (KW8.out.below hb)
    have HV9 := hid (HV8.out.below hb)
    have HX9 := hid (HX8.out.below hb)
    have KX9 := hid (KX8.out.below hb)
    have G9 := hid (G8.out.kept hb)
    have KG9 := hid (KG8.out.below hb)
    clear hb T8 P8 KW8 HV8 HX8 KX8 G8 KG8 y8 z8 NG8
    have c6 := T9.out.cell
    have c7 : w9.cell? ⟨w5.heap.size, 0, none⟩ = some (.slice (some ⟨g5, 0, none⟩) n n) := KX9.out.cell (j := 0) rfl
    have TT := hid (kc0_2 c6 c7)
    go_wp2_with fail
    go_region_held3 (fun v => v.cell? ⟨w.heap.size, 0, none⟩ = some (.slice a n c) ∧ v.cell? ⟨w5.heap.size, 0, none⟩ = some (.slice (some ⟨g5, 0, none⟩) n n) ∧ KC w9 v [(⟨w.heap.size, 0, none⟩, .slice a n c), (⟨w5.heap.size, 0, none⟩, .slice (some ⟨g5, 0, none⟩) n n)])
      (first | assumption | exact kc2 (TT.out.call (below_drew _)) | exact kc2c hbC (by assumption))
      (first
        | (go_at_call 11; refine (toTree_at _ a n c ns _ (kb_nr (by assumption) T9.out.hA) HM.out HS.out).mono ?_; rintro e wa ⟨ga, rfl, hNa, hbC⟩; have hNb := kb_nr' hbC (by assumption) HX9.out)
        | (go_at_call 13; refine (eqTree_at _ _ _ _ n n n n ns ns _ hNb hNa).mono ?_; rintro e wA ⟨rfl, hbC⟩))
    rename_i hS
    have hb := hS.2.2.bel
    have TA := hid (T9.out.below hb)
    have PA := hid (P9.out.below hb)
    have KWA := hid (KW9.out.below hb)
    have HVA := hid (HV9.out.below hb)
    have KXA := hid (KX9.out.below hb)
    have GA := hid (G9.out.kept hb)
    have KGA := hid (KG9.out.below hb)
    have xA : wA.cell? ⟨w5.heap.size, 0, none⟩ = some (.slice (some ⟨g5, 0, none⟩) n n) := KXA.out.cell (j := 0) rfl
    clear hS hNa hNb hbC hb T9 P9 KW9 HV9 HX9 KX9 G9 KG9 TT c6 c7
    go_wp2_with fail
    refine (markTree_any _ _ n n 1 V _ HVA.out HM.out (by omega) (by omega)).mono ?_
    rintro e wB ⟨k9, rfl, hk1, hk2, hm⟩
    have TB' := hid (TA.out.only hm.only (fun b hb => by have := S04.out; omega))
    have PB' : Hid (Nr wB (fun y => y < w3.heap.size) (.slice a0 n0 c0) ms) := PA.out.to hm.only (fun y h1 _ h2 => by have := S34.out; omega)
    have KWB := hid (KWA.out.to hm.only (fun h2 => by have := S34.out; omega))
    have KGB := hid (KGA.out.to hm.only (fun h2 => by have := S56.out; have := S67.out; omega))
    have GB : Hid (NA wB (.slice ag ng cg) VG ms) := GA.out.to hm.only (fun y hy h2 => by have := HGV.out y hy; have := S56.out; omega) (fun i hi y hy h2 => by have := (HGL.out i hi y hy).1; have := S56.out; omega)
    have hk9 : ¬ (k9 : Int) < 0 := by omega
    clear hm hk1 hk2 TA PA KWA HVA KXA GA KGA xA
    have yB := KWB.out.cell (j := 0) rfl
    have zB := KGB.out.cell (j := 0) rfl
    have NGB := hid (GB.out.nr (S := fun _ => True) (fun _ _ => trivial))
    go_wp2_with fail
    refine (eqTree_at (fun _ => True) _ _ _ _ _ _ _ ms ms _ NGB.out PB'.out).mono ?_
    rintro e wC ⟨rfl, hb⟩
    rw [decide_eq_true rfl]
    have TC := hid (TB'.out.below hb)
    have PC := hid (PB'.out.below hb)
    have KWC := hid (KWB.out.below hb)
    have GC := hid (GB.out.kept hb)
    have KGC := hid (KGB.out.below hb)
    clear hb TB' PB' KWB GB KGB yB zB NGB
    have zC := KGC.out.cell (j := 0) rfl
    go_wp2_with fail
    refine (markTree_ex ag ng cg 1 VG ms _ GC.out HPO.out.1 HPO.out.2 (by omega) (by omega)).mono ?_
    rintro e wD ⟨rfl, hm, ho⟩
    have MD := hid hm
    have TD := hid (TC.out.only ho (fun b ⟨i, hi, hb⟩ => by have := (HGL.out i hi b hb).1; have := S04.out; have := S45.out; have := S56.out; omega))
    have PD : Hid (Nr wD (fun y => y < w3.heap.size) (.slice a0 n0 c0) ms) := PC.out.to ho (fun y h1 _ ⟨i, hi, hb⟩ => by have := (HGL.out i hi y hb).1; have := S34.out; have := S45.out; have := S56.out; omega)
    have KWD := hid (KWC.out.to ho (fun ⟨i, hi, hb⟩ => by have := (HGL.out i hi _ hb).1; have := S34.out; have := S45.out; have := S56.out; omega))
    have KGD := hid (KGC.out.to ho (fun ⟨i, hi, hb⟩ => by have := (HGL.out i hi _ hb).2; omega))
    clear hm ho TC PC KWC GC KGC zC
    have HTH := hid (fun v (h : MkT v (.slice ag ng cg) VG ms 1) => heldTree_any ag ng cg 1 VG ms v h HPO.out.1 HPO.out.2 (by omega) (by omega))
    generalize 1 + offN ms ms.length = q at *
    have hq0 : ¬ (q : Int) < 0 := by omega
    have hqq : ((q : Int) != (q : Int)) = false := by simp
    have zD := KGD.out.cell (j := 0) rfl
    go_wp2_with fail
    refine (HTH.out _ MD.out).mono ?_
    rintro e wE ⟨rfl, hb⟩
    have TE := hid (TD.out.below hb)
    have PE := hid (PD.out.below hb)
    have KWE := hid (KWD.out.below hb)
    have KGE := hid (KGD.out.below hb)
    have ME := hid (MD.out.below hb)
    have cE := TE.out.cell
    clear hb TD PD KWD KGD MD zD
    go_wp2_with fail
    refine (toTree_at _ a n c ns _ TE.out.hA HM.out HS.out).mono ?_
    rintro e wF ⟨gF, rfl, hNF, hb⟩
    have TF := hid (TE.out.below hb)
    have PF := hid (PE.out.below hb)
    have KWF := hid (KWE.out.below hb)
    have KGF := hid (KGE.out.below hb)
    have MF := hid (ME.out.below hb)
    have HNF := hid hNF
    clear hb hNF TE PE KWE KGE ME cE
    go_wp2_with fail
    refine (HIM.out _ _ _ HNF.out).mono ?_
    rintro e wG ⟨vh, rfl, hG, hb⟩
    rw [HMS.out] at hG
    obtain ⟨ah, nh, ch, hvh, -⟩ := hG.shape
    subst hvh
    obtain ⟨VH, hG1, -, -⟩ := hG
    have TG := hid (TF.out.below hb)
    have PG := hid (PF.out.below hb)
    have KWG := hid (KWF.out.below hb)
    have KGG := hid (KGF.out.below hb)
    have MG := hid (MF.out.below hb)
    have NH := hid (hG1.nr (S := fun _ => True) (fun _ _ => trivial))
    clear hb hG1 TF PF KWF KGF MF HNF
    have hb := below_new (o := .cells #[.slice ah nh ch] 29) (w := wG) (Below.refl _ _)
    have TI := hid (TG.out.below hb)
    have PI := hid (PG.out.below hb)
    have KWI := hid (KWG.out.below hb)
    have KGI := hid (KGG.out.below hb)
    have MI := hid (MG.out.below hb)
    have NHI := hid (NH.out.below hb)
    have KHI := hid (Bk.new wG 29 [.slice ah nh ch])
    have yI := KWI.out.cell (j := 0) rfl
    have zI := KHI.out.cell (j := 0) rfl
    clear hb TG PG KWG KGG MG NH
    go_wp2_with fail
    refine (eqTree_at (fun _ => True) _ _ _ _ _ _ _ ms ms _ NHI.out PI.out).mono ?_
    generalize wG.alloc (.cells #[.slice ah nh ch] 29) = wI at *
    rintro e wJ ⟨rfl, hb⟩
    rw [decide_eq_true rfl]
    have TJ := hid (TI.out.below hb)
    have KGJ := hid (KGI.out.below hb)
    have MJ := hid (MI.out.below hb)
    have zJ := KGJ.out.cell (j := 0) rfl
    clear hb TI PI KWI KGI MI NHI KHI yI zI
    go_wp2_with fail
    refine (HTH.out _ MJ.out).mono ?_
    rintro e wK ⟨rfl, hb⟩
    have TK := hid (TJ.out.below hb)
    clear hb TJ KGJ MJ zJ HTH
    go_wp2
    go_ret
    exact ⟨rfl, TK.out.bel⟩
end Go.Proofs.Ytjplocdjbfpcgab
/-
  What is known of slices of pairs that come in as arguments.
-/
namespace Go.Proofs.Ytjplocdjbfpcgab
open Go.ChangeShapes Go.WideShapes Go.ChangeAt Go.RowKit

theorem pair_two : ∃ f0 f1 : Field, Try.prog.underlying 146 = some (.struct #[f0, f1]) ∧ f0.type = 9 ∧ f1.type = 9 ∧ f0.offset = 0 ∧ f1.offset = 1 := ⟨_, _, Try.underlying146, rfl, rfl, rfl, rfl⟩
theorem open_pairs {H : Type} {enc : TypeId × Value → H} {w : World} {base : Nat} {spare : Nat → Bool} {held : Bool} {fuel : Nat} {v : Value} {x : DataW H × List MemPlace}
    (h : DataW.trod enc Try.prog w base spare held fuel 91 [v] = some x) : ∃ l : List PB, Pr w (fun _ => True) v l ∧ szOkP l := by
  obtain ⟨f0, f1, hs, t0, t1, o0, o1⟩ := pair_two
  have k : Try.prog.cellsOf 9 = 1 := by kernel_rfl
  rcases Go.Deep.open_slice_pairs Try.underlying91 hs (by kernel_rfl) o0 o1 (by rw [t0]; exact k) (by rw [t1]; exact k) h with ⟨hcs, _⟩ | ⟨a, len, cap, m, n, V0, V1, D0, D1, P0, P1, hcs, _, hl, hm, hmm, _, hc⟩
  · simp at hcs
    subst hcs
    exact ⟨[], rw_nil _ _, fun i => by simp [pAtB]; decide⟩
  · simp at hcs
    subst hcs
    have hlm : len ≤ m := by rw [hmm]; split <;> omega
    have ex : ∀ i, ∃ p : PB, i < m → w.cell? (a.add (i * 2)) = some (.string p.1) ∧ w.cell? (a.add (i * 2 + 1)) = some (.string p.2) ∧ p.1.size ≤ maxLen ∧ p.2.size ≤ maxLen := by
      intro i
      by_cases hi : i < m
      · obtain ⟨c0, c1, d0, d1⟩ := hc i hi
        rw [t0] at d0
        rw [t1] at d1
        obtain ⟨s0, e0, _, l0⟩ := DataW.trod_string Try.underlying9 d0
        obtain ⟨s1, e1, _, l1⟩ := DataW.trod_string Try.underlying9 d1
        simp at e0 e1
        exact ⟨(s0, s1), fun _ => ⟨by rw [c0, e0], by rw [c1, e1], l0, l1⟩⟩
      · exact ⟨(⟨#[]⟩, ⟨#[]⟩), fun h => absurd h hi⟩
    obtain ⟨f, hf⟩ := Classical.axiomOfChoice ex
    unfold maxLen at hm hf
    refine ⟨(List.range len).map f, ?_, fun i => ?_⟩
    · refine ⟨_, cap, by simp; rfl, by simpa using hl, by omega, fun h0 => ?_, fun h0 => (by cases h0), fun hp => ?_⟩
      · simp at h0; subst h0; rfl
      · simp at hp
        obtain ⟨b, off, spot⟩ := a
        have hc0 := (hf 0 (by omega)).1
        have hspot : spot = none := by simpa [Addr.add] using World.cell?_spot hc0
        subst hspot
        refine ⟨b, off, rfl, by simpa [Addr.add] using block_lt hc0, trivial, fun j u hu => ?_⟩
        have hj : j < len * 2 := by
          have := (List.getElem?_eq_some_iff.1 hu).1
          simpa [pcs_length] using this
        rcases Nat.mod_two_eq_zero_or_one j with e | e
        · have h1 := (pcs_at ((List.range len).map f) (j / 2) (by simp; omega)).1
          rw [show j / 2 * 2 = j by omega, hu] at h1
          have h2 := (hf (j / 2) (by omega)).1
          rw [Addr.add_lit, show j / 2 * 2 = j by omega] at h2
          rw [h2, h1]
          simp [pAtB, show j / 2 < len by omega]
        · have h1 := (pcs_at ((List.range len).map f) (j / 2) (by simp; omega)).2
          rw [show j / 2 * 2 + 1 = j by omega, hu] at h1
          have h2 := (hf (j / 2) (by omega)).2.1
          rw [Addr.add_lit, show j / 2 * 2 + 1 = j by omega] at h2
          rw [h2, h1]
          simp [pAtB, show j / 2 < len by omega]
    · by_cases hi : i < len
      · have := hf i (by omega)
        simp [pAtB, hi]
        omega
      · simp [pAtB, hi]
        decide
set_option maxRecDepth 100000 in
theorem open_pairS {H : Type} {enc : TypeId × Value → H} {w : World} {base : Nat} {spare : Nat → Bool} {held : Bool} {r : Reach} {b0 : Nat} {v : Value} {d : DataW H} {p : List MemPlace}
    (hv : Value.okWide Try.prog w r b0 91 v) (h : DataW.Trod enc Try.prog w base spare held 91 v d p) : ∃ (a : Option Addr) (n c : Nat) (l : List PB), v = .slice a n c ∧ Pr w (fun _ => True) (.slice a n c) l ∧ szOkP l := by
  obtain ⟨a, n, c, rfl⟩ := okWide_slice Try.underlying91 hv
  obtain ⟨fuel, hf⟩ := h
  simp [Value.cells] at hf
  obtain ⟨l, h1, h2⟩ := open_pairs hf
  exact ⟨a, n, c, l, rfl, h1, h2⟩
end Go.Proofs.Ytjplocdjbfpcgab
/-
  What is known of trees that come in as arguments.
-/
namespace Go.Proofs.Ytjplocdjbfpcgab
open Go.ChangeShapes Go.WideShapes Go.ChangeAt Go.RowKit

theorem rw_mk {w : World} {a : Addr} {n c : Nat} {xs : List Value} (hl : n ≤ c) (hc : c ≤ 9223372036854775807) (hx : n = 0 → xs = []) (h0 : 0 < n → 0 < xs.length) (h : ∀ j u, xs[j]? = some u → w.cell? (a.add j) = some u) : Rw w (fun _ => True) (.slice (some a) n c) n xs := by
  refine ⟨_, c, rfl, hl, hc, hx, fun h => by (cases h), fun hp => ?_⟩
  obtain ⟨b, off, spot⟩ := a
  obtain ⟨u, hu⟩ : ∃ u, xs[0]? = some u := ⟨xs[0]'(h0 hp), by simp [h0 hp]⟩
  have hc0 := h 0 u hu
  have hspot : spot = none := by simpa [Addr.add] using World.cell?_spot hc0
  subst hspot
  refine ⟨b, off, rfl, by simpa [Addr.add] using block_lt hc0, trivial, fun j v hv => ?_⟩
  have := h j v hv
  rwa [Addr.add_lit] at this
theorem open_sr {H : Type} {enc : TypeId × Value → H} {w : World} {base : Nat} {spare : Nat → Bool} {held : Bool} {fuel : Nat} {v : Value} {x : DataW H × List MemPlace}
    (h : DataW.trod enc Try.prog w base spare held fuel 64 [v] = some x) : ∃ l : List ByteArray, Sr w (fun _ => True) v l ∧ szOkS l := by
  rcases Go.Deep.open_strs Try.underlying64 Try.underlying9 (by kernel_rfl) h with ⟨hcs, _⟩ | ⟨a, len, cap, m, Sx, hcs, _, hl, hm, hmm, _, hc⟩
  · simp at hcs
    subst hcs
    exact ⟨[], rw_nil _ _, fun i => by simp [sAt]; decide⟩
  · simp at hcs
    subst hcs
    have hlm : len ≤ m := by rw [hmm]; split <;> omega
    unfold maxLen at hm hc
    refine ⟨(List.range len).map Sx, ?_, fun i => ?_⟩
    · unfold Sr
      rw [show ((List.range len).map Sx).length = len by simp]
      refine rw_mk hl (by omega) (fun h0 => by simp [h0]) (fun h0 => by simpa using h0) (fun j u hu => ?_)
      have hj : j < len := by
        have := (List.getElem?_eq_some_iff.1 hu).1
        simpa using this
      simp [hj] at hu
      rw [← hu]
      exact (hc j (by omega)).1
    · by_cases hi : i < len
      · have := (hc i (by omega)).2
        simp [sAt, hi]
        omega
      · simp [sAt, hi]
        decide
theorem open_ir {H : Type} {enc : TypeId × Value → H} {w : World} {base : Nat} {spare : Nat → Bool} {held : Bool} {fuel : Nat} {v : Value} {x : DataW H × List MemPlace}
    (h : DataW.trod enc Try.prog w base spare held fuel 65 [v] = some x) : ∃ l : List Int, Ir w (fun _ => True) v l := by
  rcases open_ints Try.underlying65 Try.underlying3 (by kernel_rfl) h with ⟨hcs, _⟩ | ⟨a, len, cap, zs, hcs, _, hl, hm, hz, _, hcell, _⟩
  · simp at hcs
    subst hcs
    exact ⟨[], rw_nil _ _⟩
  · simp at hcs
    subst hcs
    have hlm : len ≤ zs.length := by rw [hz]; split <;> omega
    unfold maxLen at hm
    refine ⟨zs.take len, ?_⟩
    unfold Ir
    rw [show (zs.take len).length = len by simp; omega]
    refine rw_mk hl (by omega) (fun h0 => by simp [h0]) (fun h0 => by simp; omega) (fun j u hu => ?_)
    have hj : j < len := by
      have := (List.getElem?_eq_some_iff.1 hu).1
      simp at this
      omega
    have := hcell j (by omega)
    rw [this]
    simp [hj, show j < zs.length by omega] at hu
    simp [show j < zs.length by omega, hu]
theorem node_three : ∃ f0 f1 f2 : Field, Try.prog.underlying 93 = some (.struct #[f0, f1, f2]) ∧ f0.type = 91 ∧ f1.type = 64 ∧ f2.type = 65 ∧ f0.offset = 0 ∧ f1.offset = 1 ∧ f2.offset = 2 := ⟨_, _, _, Try.underlying93, rfl, rfl, rfl, rfl, rfl, rfl⟩
theorem tree_one : ∃ f0 : Field, Try.prog.underlying 24 = some (.struct #[f0]) ∧ f0.type = 22 ∧ f0.offset = 0 := ⟨_, Try.underlying24, rfl, rfl⟩
theorem open_nodes {H : Type} {enc : TypeId × Value → H} {w : World} {base : Nat} {spare : Nat → Bool} {held : Bool} {fuel : Nat} {v : Value} {x : DataW H × List MemPlace}
    (h : DataW.trod enc Try.prog w base spare held fuel 22 [v] = some x) : ∃ ns : List NB, Nr w (fun _ => True) v ns ∧ szOkN ns := by
  obtain ⟨f0, f1, f2, hs, t0, t1, t2, o0, o1, o2⟩ := node_three
  have k0 : Try.prog.cellsOf 91 = 1 := by kernel_rfl
  have k1 : Try.prog.cellsOf 64 = 1 := by kernel_rfl
  have k2 : Try.prog.cellsOf 65 = 1 := by kernel_rfl
  have k3 : Try.prog.cellsOf 93 = 3 := by kernel_rfl
  rcases Go.Deep.open_slice Try.underlying22 h with ⟨hcs, _⟩ | ⟨a, len, cap, m, n, D, P, hcs, _, hl, hm, hmm, _, hc⟩
  · simp at hcs
    subst hcs
    exact ⟨[], ⟨[], rfl, rw_nil _ _, fun i hi => by simp at hi⟩, fun i hi => by simp at hi⟩
  · simp at hcs
    subst hcs
    have hlm : len ≤ m := by rw [hmm]; split <;> omega
    simp only [k3] at hc
    have ex : ∀ i, ∃ p : V3 × NB, i < m → w.cell? (a.add (i * 3)) = some p.1.1 ∧ w.cell? (a.add (i * 3 + 1)) = some p.1.2.1 ∧ w.cell? (a.add (i * 3 + 2)) = some p.1.2.2 ∧ N1 w (fun _ => True) p.1 p.2 ∧ szOkP p.2.ps ∧ szOkS p.2.keys := by
      intro i
      by_cases hi : i < m
      · obtain ⟨cs', hcs, hd⟩ := hc i hi
        obtain ⟨_, hcl, hcell⟩ := World.cells?_some hcs
        obtain ⟨y0, y1, y2, n', _, _, d0, d1, d2⟩ := Go.Deep.trod_struct3 hs hd
        rw [t0, o0, k0] at d0
        rw [t1, o1, k1] at d1
        rw [t2, o2, k2] at d2
        obtain ⟨v0, v1, v2, rfl⟩ : ∃ v0 v1 v2, cs' = [v0, v1, v2] := by
          match cs', hcl with
          | [v0, v1, v2], _ => exact ⟨v0, v1, v2, rfl⟩
        simp at d0 d1 d2
        obtain ⟨l0, p0, s0⟩ := open_pairs d0
        obtain ⟨l1, p1, s1⟩ := open_sr d1
        obtain ⟨l2, p2⟩ := open_ir d2
        have c0 := hcell 0 (by omega)
        have c1 := hcell 1 (by omega)
        have c2 := hcell 2 (by omega)
        obtain ⟨cs0, hcs0, _⟩ := hc 0 (by omega)
        have c00 := (World.cells?_some hcs0).2.2 0 (by omega)
        have hcl0 := (World.cells?_some hcs0).2.1
        obtain ⟨b, off, spot⟩ := a
        have hspot : spot = none := by
          have e0 : ∀ x : Addr, x.add 0 = x := fun _ => rfl
          rw [Nat.zero_mul, e0, e0] at c00
          obtain ⟨u0, hu0⟩ : ∃ u, cs0[0]? = some u := ⟨cs0[0]'(by omega), by simp⟩
          exact World.cell?_spot (c00.trans hu0)
        subst hspot
        simp only [Addr.add_lit] at c0 c1 c2
        refine ⟨((v0, v1, v2), ⟨l0, l1, l2⟩), fun _ => ⟨?_, ?_, ?_, ⟨p0, p1, p2⟩, s0, s1⟩⟩
        · simpa [Addr.add_lit] using c0
        · simpa [Addr.add_lit, Nat.add_assoc] using c1
        · simpa [Addr.add_lit, Nat.add_assoc] using c2
      · exact ⟨((.slice none 0 0, .slice none 0 0, .slice none 0 0), ⟨[], [], []⟩), fun h => absurd h hi⟩
    obtain ⟨f, hf⟩ := Classical.axiomOfChoice ex
    unfold maxLen at hm
    refine ⟨(List.range len).map fun i => (f i).2, ⟨(List.range len).map fun i => (f i).1, by simp, ?_, fun i hi => ?_⟩, fun i hi => ?_⟩
    · rw [show ((List.range len).map fun i => (f i).2).length = len by simp]
      refine rw_mk hl (by omega) (fun h0 => by simp [h0, ncs]) (fun h0 => by rw [ncs_length]; simp; omega) (fun j u hu => ?_)
      have hj : j < len * 3 := by
        have := (List.getElem?_eq_some_iff.1 hu).1
        simpa [ncs_length] using this
      have hq := ncs_at ((List.range len).map fun i => (f i).1) (j / 3) (by simp; omega)
      have hv : vAt ((List.range len).map fun i => (f i).1) (j / 3) = (f (j / 3)).1 := by simp [vAt, show j / 3 < len by omega]
      rw [hv] at hq
      have hc := hf (j / 3) (by omega)
      have h3 : j = j / 3 * 3 ∨ j = j / 3 * 3 + 1 ∨ j = j / 3 * 3 + 2 := by omega
      rcases h3 with e | e | e
      · rw [← e, hu] at hq
        rw [← e] at hc
        rw [hc.1, hq.1]
      · rw [← e, hu] at hq
        rw [← e] at hc
        rw [hc.2.1, hq.2.1]
      · rw [← e, hu] at hq
        rw [← e] at hc
        rw [hc.2.2.1, hq.2.2]
    · have hi' : i < len := by simpa using hi
      have := (hf i (by omega)).2.2.2.1
      simpa [vAt, nAt, hi'] using this
    · have hi' : i < len := by simpa using hi
      have := (hf i (by omega)).2.2.2.2
      simpa [nAt, hi'] using this
theorem arr1 {α : Type} {cs : Array α} (h : cs.size = 1) : ∃ a, cs = #[a] := by
  obtain ⟨l⟩ := cs
  match l, h with
  | [a], _ => exact ⟨a, rfl⟩
set_option maxRecDepth 100000 in
theorem open_tree {H : Type} {enc : TypeId × Value → H} {w : World} {base : Nat} {spare : Nat → Bool} {held : Bool} {r : Reach} {b0 : Nat} {v : Value} {d : DataW H} {p : List MemPlace}
    (hv : Value.okWide Try.prog w r b0 24 v) (h : DataW.Trod enc Try.prog w base spare held 24 v d p) : ∃ (a : Option Addr) (n c : Nat) (ns : List NB), v = .agg #[.slice a n c] ∧ Nr w (fun _ => True) (.slice a n c) ns ∧ szOkN ns := by
  obtain ⟨f0, hs, t0, o0⟩ := tree_one
  obtain ⟨cs, rfl, hsz⟩ := okWide_struct hs hv
  obtain ⟨c0, rfl⟩ := arr1 (hsz.trans (by kernel_rfl))
  obtain ⟨fuel, hf⟩ := h
  obtain ⟨xs, n, _, _, _, hxl, hd⟩ := DataW.trod_struct hs hf
  have k0 : Try.prog.cellsOf 22 = 1 := by kernel_rfl
  have h0 := hd 0 f0 rfl
  rw [t0, o0, k0] at h0
  obtain ⟨y, hy⟩ : ∃ y, xs[0]? = some y := ⟨xs[0]'(by rw [hxl]; simp), by simp [show 0 < xs.length by rw [hxl]; simp]⟩
  rw [hy] at h0
  simp [Value.cells] at h0
  obtain ⟨ns, h1, h2⟩ := open_nodes h0
  obtain ⟨a, c, rfl, _⟩ := h1.shape
  exact ⟨a, _, c, ns, rfl, h1, h2⟩
end Go.Proofs.Ytjplocdjbfpcgab
