/-
  The law's helpers that write marks into a tree: nothing but its own rows turns.
-/
import Derived.Test.YtbaggkfgnjenoaaMkP
namespace Go.Proofs.Ytbaggkfgnjenoaa
open Go.RowKit
set_option linter.unusedVariables false
/-- The slice value v leads to n nodes whose cells are V's and stay; the rows behind them may be written. -/
def Nk (w : World) (S : Nat → Prop) (v : Value) (n : Nat) (V : Nat → V3) : Prop :=
  (∀ i, i < n → ∃ np nx ni, np ≤ 1048576 ∧ nx ≤ 1048576 ∧ ni ≤ 1048576 ∧ Kw w S (V i).1 np (np * 2) isStr ∧ Kw w S (V i).2.1 nx nx isStr ∧ Kw w S (V i).2.2 ni ni isInt) ∧
    ∃ a c, v = .slice a n c ∧ n ≤ c ∧ c ≤ 9223372036854775807 ∧ (0 < n → ∃ b off, a = some ⟨b, off, none⟩ ∧ Uf w b ∧ ∀ i, i < n → w.cell? ⟨b, off + i * 3, none⟩ = some (V i).1 ∧ w.cell? ⟨b, off + i * 3 + 1, none⟩ = some (V i).2.1 ∧ w.cell? ⟨b, off + i * 3 + 2, none⟩ = some (V i).2.2)
theorem Kw.slice {w : World} {S : Nat → Prop} {v : Value} {n m : Nat} {K : Value → Prop} (h : Kw w S v n m K) : ∃ a n c, v = .slice a n c := by
  obtain ⟨a, c, h, _⟩ := h
  exact ⟨a, n, c, h⟩
theorem Mk.slice {S : Nat → Prop} {w w' : World} (hm : Mk S w w') {b o n c : Nat} {a : Option Addr} (hu : Uf w b) (hc : w.cell? ⟨b, o, none⟩ = some (.slice a n c)) : w'.cell? ⟨b, o, none⟩ = some (.slice a n c) := by
  obtain ⟨u, d, e⟩ := hm.cell hu hc
  rw [d, kind_slice _ ⟨a, n, c, rfl⟩ _ _ rfl e]
theorem pcs_str (ps : List PB) : ∀ u ∈ pcs ps, isStr u := by
  induction ps with
  | nil => intro u hu; cases hu
  | cons p ps ih =>
    intro u hu
    simp only [pcs, List.mem_cons] at hu
    rcases hu with rfl | rfl | hu
    · exact ⟨_, rfl⟩
    · exact ⟨_, rfl⟩
    · exact ih u hu
theorem Nk.mk {S S' : Nat → Prop} {w w' : World} {v : Value} {n : Nat} {V : Nat → V3} (h : Nk w S v n V) (hm : Mk S' w w') : Nk w' S v n V := by
  obtain ⟨h0, a, c, h1, h2, h3, h4⟩ := h
  refine ⟨fun i hi => ?_, a, c, h1, h2, h3, fun hn => ?_⟩
  · obtain ⟨np, nx, ni, b1, b2, b3, k1, k2, k3⟩ := h0 i hi
    exact ⟨np, nx, ni, b1, b2, b3, k1.mk hm kind_str, k2.mk hm kind_str, k3.mk hm kind_int⟩
  · obtain ⟨b, off, h5, h7, h8⟩ := h4 hn
    refine ⟨b, off, h5, hm.uf h7, fun i hi => ?_⟩
    obtain ⟨np, nx, ni, b1, b2, b3, k1, k2, k3⟩ := h0 i hi
    obtain ⟨c0, c1, c2⟩ := h8 i hi
    obtain ⟨u0, d0, e0⟩ := hm.cell h7 c0
    obtain ⟨u1, d1, e1⟩ := hm.cell h7 c1
    obtain ⟨u2, d2, e2⟩ := hm.cell h7 c2
    rw [d0, d1, d2, kind_slice _ k1.slice _ _ rfl e0, kind_slice _ k2.slice _ _ rfl e1, kind_slice _ k3.slice _ _ rfl e2]
    exact ⟨rfl, rfl, rfl⟩
theorem Nk.below {S : Nat → Prop} {w w' : World} {v : Value} {n : Nat} {V : Nat → V3} (h : Nk w S v n V) (hb : Below w.heap.size w w') : Nk w' S v n V := h.mk (mk_below (S := fun _ => False) hb)
theorem nk_of {w : World} {S S' : Nat → Prop} {v : Value} {ns : List NB} (h : Nr w S v ns) (hs : smallN ns) (hS : ∀ b, S b → b < w.heap.size → S' b ∧ Uf w b) : ∃ V, Nk w S' v ns.length V := by
  obtain ⟨V, h1, h2, h3⟩ := h
  refine ⟨vAt V, fun i hi => ?_, ?_⟩
  · obtain ⟨k1, k2, k3⟩ := h3 i hi
    have hb := hs i hi
    refine ⟨_, _, _, hb.1, hb.2.1, hb.2.2, ?_, ?_, ?_⟩
    · have := kw_of (K := isStr) k1 (fun u hu => pcs_str _ u hu) hS
      rwa [pcs_length] at this
    · have := kw_of (K := isStr) k2 (fun u hu => by simp at hu; obtain ⟨s, _, rfl⟩ := hu; exact ⟨s, rfl⟩) hS
      rwa [List.length_map] at this
    · have := kw_of (K := isInt) k3 (fun u hu => by simp at hu; obtain ⟨s, _, rfl⟩ := hu; exact ⟨s, rfl⟩) hS
      rwa [List.length_map] at this
  · obtain ⟨a, c, e1, e2, e3, e4, en, e5⟩ := h2
    refine ⟨a, c, e1, e2, e3, fun hp => ?_⟩
    obtain ⟨b, off, e6, e7, e8, e9⟩ := e5 hp
    refine ⟨b, off, e6, (hS b e8 e7).2, fun i hi => ?_⟩
    obtain ⟨c0, c1, c2⟩ := ncs_at V i (by omega)
    exact ⟨e9 _ _ c0, e9 _ _ c1, e9 _ _ c2⟩
def NkPost (S : Nat → Prop) (w : World) (k n : Nat) (e : Ending) (w' : World) : Prop := ∃ k' : Nat, e = .returned (.int .i64 (k' : Int)) ∧ k ≤ k' ∧ k' ≤ k + n * 4194304 ∧ Mk S w w'
set_option maxHeartbeats 4000000 in
theorem markNodeS_any (S : Nat → Prop) (a : Option Addr) (n c k : Nat) (V : Nat → V3) (w : World) (h : Nk w S (.slice a n c) n V) (hn : n ≤ 1048576) (hk0 : 0 < k) (hk : k ≤ 1125899906842624) :
    Calls Try.prog 85 #[.slice a n c, .int .i64 k] w fun e w' => NkPost S w k n e w' := by
  have H0 := hid h
  obtain ⟨_, _, _, hsh, h2, h3, _⟩ := h
  cases hsh
  go_enter Try.func85, Try.ntmps85
  go_wp2_with fail
  go_loopw [1, 5] (fun x i wr => ∃ j q : Nat, x = .int .i64 (q : Int) ∧ i = .int .i64 j ∧ j ≤ n ∧ Hid (k ≤ q ∧ q ≤ k + j * 4194304) ∧ Hid (Nk wr S (.slice a n c) n V) ∧ Hid (Mk S w wr)) (fun _ i _ => n - (intOf i).toNat)
  case atStart => exact ⟨0, k, rfl, rfl, Nat.zero_le _, ⟨Nat.le_refl _, Nat.le_add_right _ _⟩, H0.out, Mk.refl _ _⟩
  case round =>
    obtain ⟨j, q, rfl, rfl, hj, HQ, HX, HG⟩ := hrel
    by_cases hlt : j < n
    · have hlt' : (j : Int) < (n : Int) := by omega
      have hj0 : (0 : Int) ≤ (j : Int) := by omega
      have hq1 : 0 < q := by have := HQ.out; omega
      have hq2 : q ≤ 5629499534213120 := by have := HQ.out; omega
      obtain ⟨hk', a', c', hsh, _, _, hcs⟩ := HX.out
      cases hsh
      obtain ⟨b, off, hab, huf, hcell⟩ := hcs (by omega)
      subst hab
      obtain ⟨np, nx, ni, b1, b2, b3, k1, k2, k3⟩ := hk' j hlt
      obtain ⟨c0, c1, c2⟩ := hcell j hlt
      generalize V j = vj at *
      obtain ⟨v0, v1, v2⟩ := vj
      obtain ⟨ap, np', cp, e0⟩ := k1.slice
      obtain ⟨ax, nx', cx, e1⟩ := k2.slice
      obtain ⟨ai, ni', ci, e2⟩ := k3.slice
      simp only at e0 e1 e2 k1 k2 k3 c0 c1 c2
      subst e0 e1 e2
      obtain rfl : np' = np := by obtain ⟨_, _, e, _⟩ := k1; cases e; rfl
      obtain rfl : nx' = nx := by obtain ⟨_, _, e, _⟩ := k2; cases e; rfl
      obtain rfl : ni' = ni := by obtain ⟨_, _, e, _⟩ := k3; cases e; rfl
      have K1 := hid k1
      have K2 := hid k2
      have K3 := hid k3
      have HU := hid huf
      have C1 := hid c1
      have C2 := hid c2
      clear hcs hcell hk' k1 k2 k3 huf c1 c2
      go_wp2_with fail
      refine (markPairS_any S ap np' cp q wr K1.out b1 hq1 (by omega)).mono ?_
      rintro e w1 ⟨rfl, hm, _⟩
      have HM1 := hid hm
      clear hm c0
      have c1 := HM1.out.slice HU.out C1.out
      have hs1 : q + np' * 2 ≤ 5629499536310272 := by omega
      have HQ1 : Hid (k ≤ q + np' * 2 ∧ q + np' * 2 ≤ k + j * 4194304 + 2097152) := by have := HQ.out; exact ⟨by omega, by omega⟩
      have hs0 : 0 < q + np' * 2 := by omega
      generalize q + np' * 2 = q1 at *
      go_wp2_with fail
      refine (markStringS_any S ax nx' cx q1 w1 (K2.out.mk HM1.out kind_str) b2 hs0 (by omega)).mono ?_
      rintro e w2 ⟨rfl, hm, _⟩
      have HM2 := hid (HM1.out.trans hm)
      clear hm c1
      have c2 := HM2.out.slice HU.out C2.out
      have hs2 : q1 + nx' ≤ 5629499537358848 := by omega
      have HQ2 : Hid (k ≤ q1 + nx' ∧ q1 + nx' ≤ k + j * 4194304 + 3145728) := by have := HQ1.out; exact ⟨by omega, by omega⟩
      have hs3 : 0 < q1 + nx' := by omega
      generalize q1 + nx' = q2 at *
      go_wp2_with fail
      refine (markIntS_any S ai ni' ci q2 w2 (K3.out.mk HM2.out kind_int) b3 hs3 (by omega)).mono ?_
      rintro e w3 ⟨rfl, hm, _⟩
      have HM3 := hid (HM2.out.trans hm)
      clear hm c2
      have HQ3 : Hid (k ≤ q2 + ni' ∧ q2 + ni' ≤ k + (j + 1) * 4194304) := by have := HQ2.out; exact ⟨by omega, by omega⟩
      generalize q2 + ni' = q3 at *
      go_wp2
      go_roundw
      case rel => exact ⟨j + 1, q3, rfl, by go_num, by omega, HQ3.out, HX.out.mk HM3.out, HG.out.trans HM3.out⟩
      case measure => simp [intOf]; omega
    · have hlt' : ¬ (j : Int) < (n : Int) := by omega
      have hjn : j = n := by omega
      subst hjn
      go_wp2
      go_ret
      exact ⟨q, rfl, HQ.out.1, HQ.out.2, HG.out⟩
set_option maxHeartbeats 2000000 in
theorem markTree_any (S : Nat → Prop) (a : Option Addr) (n c k : Nat) (V : Nat → V3) (w : World) (h : Nk w S (.slice a n c) n V) (hn : n ≤ 1048576) (hk0 : 0 < k) (hk : k ≤ 1125899906842624) :
    Calls Try.prog 39 #[.agg #[.slice a n c], .int .i64 k] w fun e w' => NkPost S w k n e w' := by
  have HB0 : Hid (Below w.heap.size w (w.alloc (.cells #[.slice a n c] 63))) := below_new (Below.refl _ _)
  have H0 := hid (h.below HB0.out)
  clear h
  go_enter Try.func39, Try.ntmps39
  go_wp2_with fail
  refine (markNodeS_any S a n c k V _ H0.out hn hk0 hk).mono ?_
  generalize w.alloc (.cells #[.slice a n c] 63) = U at *
  rintro e w1 ⟨k', rfl, h1, h2, h3⟩
  have HM := hid ((mk_below HB0.out).trans h3)
  have HK := hid (And.intro h1 h2)
  clear h1 h2 h3
  go_wp2
  go_ret
  exact ⟨k', rfl, HK.out.1, HK.out.2, HM.out⟩
end Go.Proofs.Ytbaggkfgnjenoaa

