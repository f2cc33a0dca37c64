/-
  A page's bytes as plain data; PageBytes of the specification.
-/
import Derived.Test.YtpgogpphobafoaaDoorPgO
import Derived.Test.YtpgogpphobafoaaDoorPutText
import Derived.Test.YtpgogpphobafoaaDoorFill
namespace Go.Proofs.YtpgogpphobafoaaDoor
open Go.RowKit
def pgHead (p : PG) : List Int := (if p.kids.length = 0 then [76] else [66]) ++ enc p.keys.length ++ (if p.kids.length = 0 then [] else enc (iAt p.kids 0))
def pgPart (p : PG) (i : Nat) : List Int := enc (sAt p.keys i).size ++ bytesOf (sAt p.keys i) ++ (if p.kids.length = 0 then enc (sAt p.vals i).size ++ bytesOf (sAt p.vals i) else enc (iAt p.kids (i + 1)))
def pgBody (p : PG) : Nat → List Int
  | 0 => pgHead p
  | j + 1 => pgBody p j ++ pgPart p j
def pgRaw (p : PG) : List Int := pgBody p p.keys.length
def pgFull (p : PG) : List Int := pgRaw p ++ List.replicate (512 - (pgRaw p).length) 0
def pgBytes (p : PG) : Option (List Int) := if pgOk p = true then some (pgFull p) else none
theorem sOkF_all (ss : List ByteArray) : ∀ f k, sOkF ss f k = true → ∀ i, k ≤ i → i < k + f → kOk (ss[i]?.getD ⟨#[]⟩) = true
  | 0, k, _, i, h1, h2 => by omega
  | f + 1, k, h, i, h1, h2 => by
    simp only [sOkF, Bool.and_eq_true] at h
    by_cases e : i = k
    · rw [e]; exact h.1.1
    · exact sOkF_all ss f (k + 1) h.2 i (by omega) (by omega)
theorem all_at {α : Type} {l : List α} {f : α → Bool} (h : l.all f = true) (d : α) {i : Nat} (hi : i < l.length) : f (l[i]?.getD d) = true := by
  have := (List.all_eq_true.1 h) l[i] (List.getElem_mem hi)
  simpa [hi] using this
/-- What a right page is, in numbers. -/
structure PgF (p : PG) : Prop where
  nk : p.keys.length ≤ 4
  ks : ∀ i, i < p.keys.length → (sAt p.keys i).size ≤ 16
  lf : p.kids.length = 0 → p.vals.length = p.keys.length ∧ ∀ i, i < p.vals.length → (sAt p.vals i).size ≤ 60
  br : ¬ p.kids.length = 0 → p.kids.length = p.keys.length + 1 ∧ ∀ i, i < p.kids.length → 2 ≤ iAt p.kids i ∧ iAt p.kids i < 400
theorem pgOk_facts {p : PG} (h : pgOk p = true) : PgF p := by
  simp only [pgOk, Bool.and_eq_true] at h
  obtain ⟨h1, h2⟩ := h
  have hks : ∀ i, i < p.keys.length → (sAt p.keys i).size ≤ 16 := by
    intro i hi
    have := sOkF_all _ _ _ h1 i (Nat.zero_le _) (by omega)
    simp [kOk] at this
    exact this.2
  by_cases h0 : p.kids.length = 0
  · rw [if_pos h0] at h2
    simp only [pgLeaf, Bool.and_eq_true, decide_eq_true_eq] at h2
    obtain ⟨h3, ⟨_, h4⟩, h5⟩ := h2
    refine ⟨h4, hks, fun _ => ⟨h5, fun i hi => ?_⟩, fun h => absurd h0 h⟩
    have := all_at h3 ⟨#[]⟩ hi
    simpa [vOk, sAt] using this
  · rw [if_neg h0] at h2
    simp only [pgBranch, Bool.and_eq_true, decide_eq_true_eq] at h2
    obtain ⟨h3, ⟨⟨_, h4⟩, h5⟩, h6⟩ := h2
    refine ⟨by omega, hks, fun h => absurd h h0, fun _ => ⟨by omega, fun i hi => ?_⟩⟩
    have := all_at h3 0 hi
    simpa [kidOk, iAt] using this
theorem pgPart_len {p : PG} (h : PgF p) {i : Nat} (hi : i < p.keys.length) : (pgPart p i).length ≤ 90 := by
  have h1 := h.ks i hi
  have e1 := enc_len (sAt p.keys i).size
  unfold pgPart
  by_cases h0 : p.kids.length = 0
  · obtain ⟨h2, h3⟩ := h.lf h0
    have h4 := h3 i (by omega)
    have e2 := enc_len (sAt p.vals i).size
    rw [if_pos h0]
    simp only [List.length_append, bytesOf_len]
    omega
  · have e2 := enc_len (iAt p.kids (i + 1))
    rw [if_neg h0]
    simp only [List.length_append, bytesOf_len]
    omega
theorem pgHead_len (p : PG) : (pgHead p).length ≤ 15 := by
  have e1 := enc_len p.keys.length
  have e2 := enc_len (iAt p.kids 0)
  unfold pgHead
  split
  · simp; omega
  · simp; omega
theorem pgBody_len {p : PG} (h : PgF p) : ∀ j, j ≤ p.keys.length → (pgBody p j).length ≤ 15 + j * 90
  | 0, _ => by simpa [pgBody] using pgHead_len p
  | j + 1, hj => by
    have h1 := pgBody_len h j (by omega)
    have h2 := pgPart_len h (show j < p.keys.length by omega)
    rw [pgBody, List.length_append]
    omega
theorem pgPart_byte {p : PG} (h : PgF p) {i : Nat} (hi : i < p.keys.length) : ∀ z ∈ pgPart p i, 0 ≤ z ∧ z ≤ 255 := by
  have h1 := h.ks i hi
  unfold pgPart
  refine byte_append (byte_append (enc_byte _ (by omega) (by omega)) (bytesOf_byte _)) ?_
  by_cases h0 : p.kids.length = 0
  · obtain ⟨h2, h3⟩ := h.lf h0
    have h4 := h3 i (by omega)
    rw [if_pos h0]
    exact byte_append (enc_byte _ (by omega) (by omega)) (bytesOf_byte _)
  · obtain ⟨h2, h3⟩ := h.br h0
    have h4 := h3 (i + 1) (by omega)
    rw [if_neg h0]
    exact enc_byte _ (by omega) (by omega)
theorem pgHead_byte {p : PG} (h : PgF p) : ∀ z ∈ pgHead p, 0 ≤ z ∧ z ≤ 255 := by
  have h1 := h.nk
  unfold pgHead
  by_cases h0 : p.kids.length = 0
  · rw [if_pos h0, if_pos h0]
    exact byte_append (byte_append (by intro z hz; simp at hz; omega) (enc_byte _ (by omega) (by omega))) (by intro z hz; cases hz)
  · obtain ⟨h2, h3⟩ := h.br h0
    have h4 := h3 0 (by omega)
    rw [if_neg h0, if_neg h0]
    exact byte_append (byte_append (by intro z hz; simp at hz; omega) (enc_byte _ (by omega) (by omega))) (enc_byte _ (by omega) (by omega))
theorem pgBody_byte {p : PG} (h : PgF p) : ∀ j, j ≤ p.keys.length → ∀ z ∈ pgBody p j, 0 ≤ z ∧ z ≤ 255
  | 0, _ => by rw [pgBody]; exact pgHead_byte h
  | j + 1, hj => by rw [pgBody]; exact byte_append (pgBody_byte h j (by omega)) (pgPart_byte h (show j < p.keys.length by omega))
/-- An owned row of bytes, as a slice that is read. -/
theorem Ob.rdS {w : World} {B : Nat} {v : Value} {zs : List Int} (h : Ob w B v zs) (hl : ∀ z ∈ zs, 0 ≤ z ∧ z ≤ 255) (hb : zs.length ≤ 1000) : ∃ a n c, v = .slice a n c ∧ Hid (Rd w a n c zs) ∧ n ≤ 1000 := by
  obtain ⟨a, c, e, hr, _⟩ := h.rd (byte_at hl) (by omega)
  exact ⟨a, _, c, e, hr, hb⟩
theorem Put.got {w w' : World} {r : Option (List Int)} {e : Ending} {zs : List Int} (h : Put w r e w') (hr : r = some zs) : ∃ v, e = .returned (.tuple #[v, .bool true]) ∧ Ob w' w.heap.size v zs ∧ Below w.heap.size w w' := by
  obtain ⟨hb, ⟨h1, _⟩ | ⟨v, zs', h1, h2, h3⟩⟩ := h
  · rw [hr] at h1; cases h1
  · rw [hr] at h1; cases h1
    exact ⟨v, h2, h3, hb⟩
/-- What PageBytes holds in hand while it writes. -/
structure Pw1 (w v : World) (x : Nat) (ka : Option Addr) (kn kc : Nat) (va : Option Addr) (vn vc : Nat) (ia : Option Addr) (jn ic : Nat) (p : PG) : Prop where
  be : Below w.heap.size w v
  bk : Bk v x 30 [.slice ka kn kc, .slice va vn vc, .slice ia jn ic]
  pg : Pgr v (fun _ => True) ka kn kc va vn vc ia jn ic p
theorem Pw1.below {w v v' : World} {x : Nat} {ka : Option Addr} {kn kc : Nat} {va : Option Addr} {vn vc : Nat} {ia : Option Addr} {jn ic : Nat} {p : PG} (h : Pw1 w v x ka kn kc va vn vc ia jn ic p) (hb : Below v.heap.size v v') : Pw1 w v' x ka kn kc va vn vc ia jn ic p :=
  ⟨h.be.trans (hb.mono h.be.size), h.bk.below hb, h.pg.below hb⟩
theorem Pw1.cells {w v : World} {x : Nat} {ka : Option Addr} {kn kc : Nat} {va : Option Addr} {vn vc : Nat} {ia : Option Addr} {jn ic : Nat} {p : PG} (h : Pw1 w v x ka kn kc va vn vc ia jn ic p) : v.cell? ⟨x, 0, none⟩ = some (.slice ka kn kc) ∧ v.cell? ⟨x, 1, none⟩ = some (.slice va vn vc) ∧ v.cell? ⟨x, 2, none⟩ = some (.slice ia jn ic) :=
  ⟨h.bk.cell (j := 0) rfl, h.bk.cell (j := 1) rfl, h.bk.cell (j := 2) rfl⟩
set_option maxHeartbeats 8000000 in
set_option maxRecDepth 20000 in
theorem specPageBytes_any (S : Nat → Prop) (ka : Option Addr) (kn kc : Nat) (va : Option Addr) (vn vc : Nat) (ia : Option Addr) (jn ic : Nat) (p : PG) (w : World) (h : Pgr w S ka kn kc va vn vc ia jn ic p) :
    Calls Tryd.prog 8 #[.agg #[.slice ka kn kc, .slice va vn vc, .slice ia jn ic]] w fun e w' => Put w (pgBytes p) e w' := by
  have hb0 := below_new (o := .cells #[.slice ka kn kc, .slice va vn vc, .slice ia jn ic] 30) (w := w) (Below.refl _ _)
  have L0 : Hid (Pw1 w (w.alloc (.cells #[.slice ka kn kc, .slice va vn vc, .slice ia jn ic] 30)) w.heap.size ka kn kc va vn vc ia jn ic p) := by
    have hp := h.below hb0
    exact ⟨hb0, Bk.new w 30 [.slice ka kn kc, .slice va vn vc, .slice ia jn ic], Rw.mono hp.hk (fun _ _ _ => trivial), Rw.mono hp.hv (fun _ _ _ => trivial), Rw.mono hp.hi (fun _ _ _ => trivial)⟩
  have HNK := hid (Rw.len h.hk).1
  have HNV := hid (Rw.len h.hv).1
  have HNI := hid (Rw.len h.hi).1
  have bk := (Rw.len h.hk).2
  have bv := (Rw.len h.hv).2
  have bi := (Rw.len h.hi).2
  clear h hb0
  obtain ⟨c0, c1, c2⟩ := L0.out.cells
  go_enter Tryd.func8, Tryd.ntmps8
  go_wp2_with fail
  refine (specPageOk_any _ ka kn kc va vn vc ia jn ic p _ L0.out.pg).mono ?_
  generalize w.alloc (.cells #[.slice ka kn kc, .slice va vn vc, .slice ia jn ic] 30) = U at *
  rintro e w1 ⟨rfl, hb1⟩
  have L1 := hid (L0.out.below hb1)
  clear hb1 L0 c0 c1 c2
  have HP : Hid (pgBytes p = if pgOk p = true then some (pgFull p) else none) := rfl
  cases hok : pgOk p with
  | false =>
    have HN : Hid (pgBytes p = none) := by show _ = _; rw [HP.out, hok]; rfl
    go_wp2
    go_ret2
    exact ⟨L1.out.be, .inl ⟨HN.out, rfl⟩⟩
  | true =>
    have HN : Hid (pgBytes p = some (pgFull p)) := by show _ = _; rw [HP.out, hok]; rfl
    have HF := hid (pgOk_facts hok)
    have hk4 : kn ≤ 4 := by rw [HNK.out]; exact HF.out.nk
    clear hok HP
    by_cases hi0 : jn = 0
    · subst hi0
      have h0 : p.kids.length = 0 := HNI.out.symm
      have HEH : Hid (pgHead p = [76] ++ enc (kn : Int)) := by show _ = _; rw [pgHead, if_pos h0, if_pos h0, ← HNK.out]; simp
      have hpv : pv [76] (kn : Int) = some ([76] ++ enc (kn : Int)) := pv_ok _ _ (by omega) (by omega) (by have := enc_len (kn : Int); simp; omega)
      have HPV := hid hpv
      have HPA : Hid (∀ i, pgPart p i = enc (sAt p.keys i).size ++ bytesOf (sAt p.keys i) ++ (enc (sAt p.vals i).size ++ bytesOf (sAt p.vals i))) := fun i => by rw [pgPart, if_pos h0]
      obtain ⟨hvl, hvs⟩ := HF.out.lf h0
      have hvn : vn = kn := by rw [HNV.out, hvl, HNK.out]
      have HVS := hid hvs
      clear hpv h0 hvl hvs
      have ba := below_new (o := .cells #[.int .u8 76] 5) (w := w1) (Below.refl _ _)
      have L2 := hid (L1.out.below ba)
      have R2 := hid (rd_one w1 76 (by omega) (by omega))
      clear ba L1
      obtain ⟨c0, c1, c2⟩ := L2.out.cells
      go_wp2_with fail
      refine (specPutVar_any _ _ _ _ _ _ R2.out (by omega)).mono ?_
      generalize w1.alloc (.cells #[.int .u8 76] 5) = U2 at *
      intro e w3 hput
      obtain ⟨v3, rfl, hO3, hb3⟩ := hput.got HPV.out
      rw [← HEH.out] at hO3
      obtain ⟨a3, n3, c3, rfl, R3, hn3⟩ := hO3.rdS (pgHead_byte HF.out) (by have := pgHead_len p; omega)
      have L3 := hid (L2.out.below hb3)
      clear hput hO3 hb3 L2 R2 c0 c1 c2 HPV HEH
      obtain ⟨c0, c1, c2⟩ := L3.out.cells
      go_wp2_with fail
      clear c0 c1 c2
      go_loopw [4, 41] (fun xv i wr => ∃ (j : Nat) (a4 : Option Addr) (n4 c4 : Nat), j ≤ kn ∧ i = .int .i64 j ∧ xv = .slice a4 n4 c4 ∧ n4 ≤ 1000 ∧ Hid (Rd wr a4 n4 c4 (pgBody p j)) ∧ Hid (Pw1 w wr w.heap.size ka kn kc va vn vc ia 0 ic p)) (fun _ i _ => kn - (intOf i).toNat)
      case atStart => exact ⟨0, a3, n3, c3, Nat.zero_le _, rfl, rfl, hn3, R3.out, L3.out⟩
      case round =>
        obtain ⟨j, a4, n4, c4, hj, rfl, rfl, hn4, R4, L4⟩ := hrel
        clear R3 L3
        by_cases hlt : j < kn
        · have hlt' : (j : Int) < (kn : Int) := by omega
          have hjl : j < p.keys.length := by rw [← HNK.out]; exact hlt
          have hjv : j < p.vals.length := by rw [← HNV.out]; omega
          obtain ⟨c0, c1, c2⟩ := L4.out.cells
          obtain ⟨kb, ko, hka, -, -, hck⟩ := L4.out.pg.hk.at (by omega)
          obtain ⟨vb, vo, hva, -, -, hcv⟩ := L4.out.pg.hv.at (by omega)
          subst hka hva
          have m0 := hck j hlt
          have hks := HF.out.ks j hjl
          have hvs := HVS.out j hjv
          have HST : Hid (pgBody p (j + 1) = pgBody p j ++ (enc (sAt p.keys j).size ++ bytesOf (sAt p.keys j) ++ (enc (sAt p.vals j).size ++ bytesOf (sAt p.vals j)))) := by show _ = _; rw [pgBody, HPA.out]
          have HLN := hid (pgBody_len HF.out j (by omega))
          have HBY := hid (pgBody_byte HF.out j (by omega))
          have HCV : Hid (∀ u, Pw1 w u w.heap.size (some ⟨kb, ko, none⟩) kn kc (some ⟨vb, vo, none⟩) vn vc ia 0 ic p → u.cell? ⟨vb, vo + j, none⟩ = some (.string (sAt p.vals j))) := by
            intro u hu
            obtain ⟨vb', vo', e, -, -, hc⟩ := hu.pg.hv.at (by omega)
            cases e
            exact hc j (by omega)
          clear hck hcv
          generalize sAt p.keys j = kk at *
          generalize sAt p.vals j = vv at *
          have ek := enc_len kk.size
          have ev := enc_len vv.size
          have HPT1 : Hid (pt (pgBody p j) kk = some (pgBody p j ++ enc kk.size ++ bytesOf kk)) := by
            show _ = _
            rw [pt, if_pos]
            have := HLN.out
            simp only [List.length_append, bytesOf_len]
            omega
          have HPT2 : Hid (pt (pgBody p j ++ enc kk.size ++ bytesOf kk) vv = some (pgBody p (j + 1))) := by
            show _ = _
            rw [pt, if_pos, HST.out]
            · simp
            · have := HLN.out
              simp only [List.length_append, bytesOf_len]
              omega
          have HB1 : Hid (∀ z ∈ pgBody p j ++ enc kk.size ++ bytesOf kk, 0 ≤ z ∧ z ≤ 255) := byte_append (byte_append HBY.out (enc_byte _ (by omega) (by omega))) (bytesOf_byte _)
          have HL1 : Hid ((pgBody p j ++ enc kk.size ++ bytesOf kk).length ≤ 1000) := by
            show _ ≤ _
            have := HLN.out
            simp only [List.length_append, bytesOf_len]
            omega
          have HB2 := hid (pgBody_byte HF.out (j + 1) (by omega))
          have HL2 : Hid ((pgBody p (j + 1)).length ≤ 1000) := by have := pgBody_len HF.out (j + 1) (by omega); show _ ≤ _; omega
          clear ek ev
          go_wp2_with fail
          refine (specPutText_any a4 n4 c4 _ kk _ R4.out (by omega) (by omega)).mono ?_
          intro e w5 hput
          obtain ⟨v5, rfl, hO5, hb5⟩ := hput.got HPT1.out
          obtain ⟨a5, n5, c5, rfl, R5, hn5⟩ := hO5.rdS HB1.out HL1.out
          have L5 := hid (L4.out.below hb5)
          have m5 := HCV.out _ L5.out
          clear hput hO5 hb5 L4 R4 c0 c1 c2 m0
          obtain ⟨c0, c1, c2⟩ := L5.out.cells
          go_wp2_with fail
          refine (specPutText_any a5 n5 c5 _ vv _ R5.out (by omega) (by omega)).mono ?_
          intro e w6 hput
          obtain ⟨v6, rfl, hO6, hb6⟩ := hput.got HPT2.out
          obtain ⟨a6, n6, c6, rfl, R6, hn6⟩ := hO6.rdS HB2.out HL2.out
          have L6 := hid (L5.out.below hb6)
          clear hput hO6 hb6 L5 R5 c0 c1 c2 m5 HPT1 HPT2 HB1 HL1 HB2 HL2 HST HLN HBY HCV
          go_wp2
          go_roundw
          case rel => exact ⟨j + 1, a6, n6, c6, by omega, by go_num, rfl, hn6, R6.out, L6.out⟩
          case measure => simp [intOf]; omega
        · have hlt' : ¬ (j : Int) < (kn : Int) := by omega
          have hjk : j = p.keys.length := by rw [← HNK.out]; omega
          have HFL : Hid (fl (pgBody p j) 512 = some (pgFull p)) := by
            show _ = _
            have hl := pgBody_len HF.out p.keys.length (Nat.le_refl _)
            have hn := HF.out.nk
            rw [hjk, fl, if_pos (by omega)]
            show some (pgRaw p ++ _) = _
            rw [pgFull]
            congr 3
            show ((512 : Int) - ((pgRaw p).length : Int)).toNat = _
            omega
          clear hjk
          go_wp2_with fail
          refine (specFill_any a4 n4 c4 _ 512 _ R4.out (by omega)).mono ?_
          intro e w5 hput
          obtain ⟨v5, rfl, hO5, hb5⟩ := hput.got HFL.out
          have L5 := hid (L4.out.below hb5)
          have HO : Hid (Ob w5 w.heap.size v5 (pgFull p)) := hO5.mono L4.out.be.size
          clear hput hO5 hb5 L4 R4 HFL
          go_wp2
          go_ret2
          exact ⟨L5.out.be, .inr ⟨_, _, HN.out, rfl, HO.out⟩⟩
    · have hi0' : (0 : Int) < (jn : Int) := by omega
      have h0 : ¬ p.kids.length = 0 := by rw [← HNI.out]; exact hi0
      obtain ⟨hil, his⟩ := HF.out.br h0
      have HJN : Hid (jn = kn + 1) := by show _ = _; rw [HNI.out, hil, HNK.out]
      have HIS := hid his
      have h00 := his 0 (by have := HNI.out; omega)
      have HEH : Hid (pgHead p = [66] ++ enc (kn : Int) ++ enc (iAt p.kids 0)) := by show _ = _; rw [pgHead, if_neg h0, if_neg h0, ← HNK.out]
      have HPV : Hid (pv [66] (kn : Int) = some ([66] ++ enc (kn : Int))) := pv_ok _ _ (by omega) (by omega) (by have := enc_len (kn : Int); simp; omega)
      have HPV2 : Hid (pv ([66] ++ enc (kn : Int)) (iAt p.kids 0) = some (pgHead p)) := by
        show _ = _
        rw [HEH.out]
        exact pv_ok _ _ (by omega) (by omega) (by have := enc_len (kn : Int); have := enc_len (iAt p.kids 0); simp; omega)
      have HBY0 : Hid (∀ z ∈ [66] ++ enc (kn : Int), 0 ≤ z ∧ z ≤ 255) := byte_append (by intro z hz; simp at hz; omega) (enc_byte _ (by omega) (by omega))
      have HLN0 : Hid (([66] ++ enc (kn : Int)).length ≤ 1000) := by have := enc_len (kn : Int); show _ ≤ _; simp; omega
      have HPA : Hid (∀ i, pgPart p i = enc (sAt p.keys i).size ++ bytesOf (sAt p.keys i) ++ enc (iAt p.kids (i + 1))) := fun i => by rw [pgPart, if_neg h0]
      clear h0 hil his
      have ba := below_new (o := .cells #[.int .u8 66] 5) (w := w1) (Below.refl _ _)
      have L2 := hid (L1.out.below ba)
      have R2 := hid (rd_one w1 66 (by omega) (by omega))
      have LA := hid (L1.out.below (below_new (o := .cells #[.int .u8 76] 5) (w := w1) (Below.refl _ _)))
      clear ba L1
      obtain ⟨d0, d1, d2⟩ := LA.out.cells
      obtain ⟨c0, c1, c2⟩ := L2.out.cells
      go_wp2_with fail
      refine (specPutVar_any _ _ _ _ _ _ R2.out (by omega)).mono ?_
      generalize w1.alloc (.cells #[.int .u8 66] 5) = U2 at *
      intro e w2 hput
      obtain ⟨v2, rfl, hO2, hb2⟩ := hput.got HPV.out
      obtain ⟨a2, n2, cc2, rfl, R2', hn2⟩ := hO2.rdS HBY0.out HLN0.out
      have L2' := hid (L2.out.below hb2)
      clear hput hO2 hb2 L2 LA R2 c0 c1 c2 d0 d1 d2 HPV HBY0 HLN0
      obtain ⟨c0, c1, c2⟩ := L2'.out.cells
      obtain ⟨ib, io, hia, -, -, hci⟩ := L2'.out.pg.hi.at (by omega)
      subst hia
      have k0 := hci 0 (by omega)
      rw [Nat.add_zero] at k0
      clear hci
      generalize iAt p.kids 0 = kid0 at *
      go_wp2_with fail
      refine (specPutVar_any a2 n2 cc2 _ kid0 _ R2'.out (by omega)).mono ?_
      intro e w3 hput
      obtain ⟨v3, rfl, hO3, hb3⟩ := hput.got HPV2.out
      obtain ⟨a3, n3, c3, rfl, R3, hn3⟩ := hO3.rdS (pgHead_byte HF.out) (by have := pgHead_len p; omega)
      have L3 := hid (L2'.out.below hb3)
      clear hput hO3 hb3 L2' R2' c0 c1 c2 k0 HPV2 HEH h00
      obtain ⟨c0, c1, c2⟩ := L3.out.cells
      go_wp2_with fail
      clear c0 c1 c2
      go_loopw [4, 41] (fun xv i wr => ∃ (j : Nat) (a4 : Option Addr) (n4 c4 : Nat), j ≤ kn ∧ i = .int .i64 j ∧ xv = .slice a4 n4 c4 ∧ n4 ≤ 1000 ∧ Hid (Rd wr a4 n4 c4 (pgBody p j)) ∧ Hid (Pw1 w wr w.heap.size ka kn kc va vn vc (some ⟨ib, io, none⟩) jn ic p)) (fun _ i _ => kn - (intOf i).toNat)
      case atStart => exact ⟨0, a3, n3, c3, Nat.zero_le _, rfl, rfl, hn3, R3.out, L3.out⟩
      case round =>
        obtain ⟨j, a4, n4, c4, hj, rfl, rfl, hn4, R4, L4⟩ := hrel
        clear R3 L3
        by_cases hlt : j < kn
        · have hlt' : (j : Int) < (kn : Int) := by omega
          have hlt2 : (j : Int) + 1 < (jn : Int) := by have := HJN.out; omega
          have hjl : j < p.keys.length := by rw [← HNK.out]; exact hlt
          obtain ⟨c0, c1, c2⟩ := L4.out.cells
          obtain ⟨kb, ko, hka, -, -, hck⟩ := L4.out.pg.hk.at (by omega)
          subst hka
          have m0 := hck j hlt
          have hks := HF.out.ks j hjl
          have hvs := HIS.out (j + 1) (by rw [← HNI.out]; have := HJN.out; omega)
          have HST : Hid (pgBody p (j + 1) = pgBody p j ++ (enc (sAt p.keys j).size ++ bytesOf (sAt p.keys j) ++ enc (iAt p.kids (j + 1)))) := by show _ = _; rw [pgBody, HPA.out]
          have HLN := hid (pgBody_len HF.out j (by omega))
          have HBY := hid (pgBody_byte HF.out j (by omega))
          have HCV : Hid (∀ u, Pw1 w u w.heap.size (some ⟨kb, ko, none⟩) kn kc va vn vc (some ⟨ib, io, none⟩) jn ic p → u.cell? ⟨ib, io + (j + 1), none⟩ = some (.int .i64 (iAt p.kids (j + 1)))) := by
            intro u hu
            obtain ⟨vb', vo', e, -, -, hc⟩ := hu.pg.hi.at (by omega)
            cases e
            exact hc (j + 1) (by have := HJN.out; omega)
          clear hck
          generalize sAt p.keys j = kk at *
          generalize iAt p.kids (j + 1) = vv at *
          have ek := enc_len kk.size
          have ev := enc_len vv
          have HPT1 : Hid (pt (pgBody p j) kk = some (pgBody p j ++ enc kk.size ++ bytesOf kk)) := by
            show _ = _
            rw [pt, if_pos]
            have := HLN.out
            simp only [List.length_append, bytesOf_len]
            omega
          have HPT2 : Hid (pv (pgBody p j ++ enc kk.size ++ bytesOf kk) vv = some (pgBody p (j + 1))) := by
            show _ = _
            rw [HST.out, pv_ok _ _ (by omega) (by omega)]
            · simp
            · have := HLN.out
              simp only [List.length_append, bytesOf_len]
              omega
          have HB1 : Hid (∀ z ∈ pgBody p j ++ enc kk.size ++ bytesOf kk, 0 ≤ z ∧ z ≤ 255) := byte_append (byte_append HBY.out (enc_byte _ (by omega) (by omega))) (bytesOf_byte _)
          have HL1 : Hid ((pgBody p j ++ enc kk.size ++ bytesOf kk).length ≤ 1000) := by
            show _ ≤ _
            have := HLN.out
            simp only [List.length_append, bytesOf_len]
            omega
          have HB2 := hid (pgBody_byte HF.out (j + 1) (by omega))
          have HL2 : Hid ((pgBody p (j + 1)).length ≤ 1000) := by have := pgBody_len HF.out (j + 1) (by omega); show _ ≤ _; omega
          clear ek ev
          go_wp2_with fail
          refine (specPutText_any a4 n4 c4 _ kk _ R4.out (by omega) (by omega)).mono ?_
          intro e w5 hput
          obtain ⟨v5, rfl, hO5, hb5⟩ := hput.got HPT1.out
          obtain ⟨a5, n5, c5, rfl, R5, hn5⟩ := hO5.rdS HB1.out HL1.out
          have L5 := hid (L4.out.below hb5)
          have m5 := HCV.out _ L5.out
          clear hput hO5 hb5 L4 R4 c0 c1 c2 m0
          obtain ⟨c0, c1, c2⟩ := L5.out.cells
          go_wp2_with fail
          refine (specPutVar_any a5 n5 c5 _ vv _ R5.out (by omega)).mono ?_
          intro e w6 hput
          obtain ⟨v6, rfl, hO6, hb6⟩ := hput.got HPT2.out
          obtain ⟨a6, n6, c6, rfl, R6, hn6⟩ := hO6.rdS HB2.out HL2.out
          have L6 := hid (L5.out.below hb6)
          clear hput hO6 hb6 L5 R5 c0 c1 c2 m5 HPT1 HPT2 HB1 HL1 HB2 HL2 HST HLN HBY HCV
          go_wp2
          go_roundw
          case rel => exact ⟨j + 1, a6, n6, c6, by omega, by go_num, rfl, hn6, R6.out, L6.out⟩
          case measure => simp [intOf]; omega
        · have hlt' : ¬ (j : Int) < (kn : Int) := by omega
          have hjk : j = p.keys.length := by rw [← HNK.out]; omega
          have HFL : Hid (fl (pgBody p j) 512 = some (pgFull p)) := by
            show _ = _
            have hl := pgBody_len HF.out p.keys.length (Nat.le_refl _)
            have hn := HF.out.nk
            rw [hjk, fl, if_pos (by omega)]
            show some (pgRaw p ++ _) = _
            rw [pgFull]
            congr 3
            show ((512 : Int) - ((pgRaw p).length : Int)).toNat = _
            omega
          clear hjk
          go_wp2_with fail
          refine (specFill_any a4 n4 c4 _ 512 _ R4.out (by omega)).mono ?_
          intro e w5 hput
          obtain ⟨v5, rfl, hO5, hb5⟩ := hput.got HFL.out
          have L5 := hid (L4.out.below hb5)
          have HO : Hid (Ob w5 w.heap.size v5 (pgFull p)) := hO5.mono L4.out.be.size
          clear hput hO5 hb5 L4 R4 HFL
          go_wp2
          go_ret2
          exact ⟨L5.out.be, .inr ⟨_, _, HN.out, rfl, HO.out⟩⟩
end Go.Proofs.YtpgogpphobafoaaDoor

