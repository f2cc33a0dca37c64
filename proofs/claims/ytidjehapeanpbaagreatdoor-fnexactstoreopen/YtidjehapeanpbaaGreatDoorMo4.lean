/-
  What a store's tree is read from, as plain data: a page's node, the nodes at and below a sheet.
-/
import Derived.Test.YtidjehapeanpbaaGreatDoorMo3
import Derived.Test.YtidjehapeanpbaaGreatDoorMo1
import Derived.Deep.LoopGhost
import Derived.Maps.AppendAt
import Derived.Deep.RegionLaw
import Derived.Test.YtidjehapeanpbaaGreatDoorMo2
import Derived.LaidLaws
import Derived.Stop.LaidErr
import Derived.WalkLawsBesides
import Derived.Defers
import Derived.Recover
import Derived.Deep.RegionWith
import Derived.Deep.DeepCutAuto
namespace Go.Proofs.YtidjehapeanpbaaGreatDoor
open Go.RowKit
set_option linter.unusedVariables false
def pairsP (p : PG) : List PB := (List.range p.keys.length).map fun i => (sAt p.keys i, sAt p.vals i)
theorem pairsP_len (p : PG) : (pairsP p).length = p.keys.length := by simp [pairsP]
theorem pairsP_take (p : PG) {k : Nat} (h : k < p.keys.length) : (pairsP p).take (k + 1) = (pairsP p).take k ++ [(sAt p.keys k, sAt p.vals k)] := by
 have hl : k < (pairsP p).length := by rw [pairsP_len]; exact h
 rw [List.take_succ_eq_append_getElem hl]
 simp [pairsP]
def nodeP (p : PG) : NB := if p.kids.length = 0 then ⟨pairsP p, [], []⟩ else ⟨[], p.keys, []⟩
def pgAt (ss : List (List Int)) (t : Int) : Option PG := if 0 ≤ t ∧ t < (ss.length : Int) then prd (shAt ss t.toNat) else none
def addK (ns : List NB) (me : Nat) (q : Int) : List NB := ns.set me ⟨(nAt ns me).ps, (nAt ns me).keys, (nAt ns me).kids ++ [q]⟩
theorem addK_len (ns : List NB) (me : Nat) (q : Int) : (addK ns me q).length = ns.length := by simp [addK]
abbrev LS := List NB × List Int
def ldK (F : Int → LS → Option LS) (me : Nat) : List Int → LS → Option LS
 | [], s => some s
 | k :: ks, s => match F k (addK s.1 me (s.1.length : Int), s.2) with
  | none => none
  | some s' => ldK F me ks s'
def ldV (ss : List (List Int)) : Nat → Int → LS → Option LS
 | 0, _, _ => none
 | f + 1, t, s => match pgAt ss t with
  | none => none
  | some p => if t ∈ s.2 ∨ 400 ≤ s.1.length then none else ldK (ldV ss f) s.1.length p.kids (s.1 ++ [nodeP p], s.2 ++ [t])
theorem ldK_at (F : Int → LS → Option LS) (me : Nat) (ks : List Int) {j : Nat} (h : j < ks.length) (s : LS) : ldK F me (ks.drop j) s = match F (iAt ks j) (addK s.1 me (s.1.length : Int), s.2) with | none => none | some s' => ldK F me (ks.drop (j + 1)) s' := by
 rw [List.drop_eq_getElem_cons h]
 have e : iAt ks j = ks[j] := by simp [iAt, h]
 rw [e]
 rfl
theorem ldV_page {ss : List (List Int)} {f : Nat} {t : Int} {s : LS} (h : pgAt ss t = none) : ldV ss f t s = none := by
 cases f with
 | zero => rfl
 | succ f => rw [ldV, h]
theorem ldV_bad {ss : List (List Int)} {f : Nat} {t : Int} {s : LS} (h : t ∈ s.2 ∨ 400 ≤ s.1.length) : ldV ss f t s = none := by
 cases f with
 | zero => rfl
 | succ f =>
  rw [ldV]
  cases pgAt ss t with
  | none => rfl
  | some p => simp only; rw [if_pos h]
theorem ldV_go {ss : List (List Int)} {f : Nat} {t : Int} {s : LS} {p : PG} (h : pgAt ss t = some p) (h2 : ¬ (t ∈ s.2 ∨ 400 ≤ s.1.length)) : ldV ss (f + 1) t s = ldK (ldV ss f) s.1.length p.kids (s.1 ++ [nodeP p], s.2 ++ [t]) := by
 rw [ldV, h]
 simp only
 rw [if_neg h2]
theorem ldK_len {F : Int → LS → Option LS} (hF : ∀ t s s', F t s = some s' → s.1.length + 1 ≤ s'.1.length ∧ s'.1.length ≤ 400) (me : Nat) : ∀ (ks : List Int) (s s' : LS), s.1.length ≤ 400 → ldK F me ks s = some s' → s.1.length ≤ s'.1.length ∧ s'.1.length ≤ 400
 | [], s, s', h4, h => by cases h; exact ⟨Nat.le_refl _, h4⟩
 | k :: ks, s, s', h4, h => by
  rw [ldK] at h
  cases e : F k (addK s.1 me (s.1.length : Int), s.2) with
  | none => rw [e] at h; cases h
  | some s2 =>
   rw [e] at h
   have h1 := hF _ _ _ e
   simp only [addK_len] at h1
   have h2 := ldK_len hF me ks s2 s' h1.2 h
   omega
theorem ldV_len (ss : List (List Int)) : ∀ (f : Nat) (t : Int) (s s' : LS), ldV ss f t s = some s' → s.1.length + 1 ≤ s'.1.length ∧ s'.1.length ≤ 400
 | 0, t, s, s', h => by cases h
 | f + 1, t, s, s', h => by
  rw [ldV] at h
  cases e : pgAt ss t with
  | none => rw [e] at h; cases h
  | some p =>
   rw [e] at h
   simp only at h
   by_cases hb : t ∈ s.2 ∨ 400 ≤ s.1.length
   ·rw [if_pos hb] at h; cases h
   ·rw [if_neg hb] at h
    have := ldK_len (ldV_len ss f) s.1.length p.kids _ s' (by simp; omega) h
    simpa using this
theorem prd_ok {zs : List Int} {p : PG} (h : prd zs = some p) : pgOk p = true := by
 have := (prd_iff zs p).1 h
 unfold pgBytes at this
 by_cases e : pgOk p = true
 ·exact e
 ·rw [if_neg e] at this; cases this
theorem pgOk_shape {p : PG} (h : pgOk p = true) : (p.kids.length = 0 → p.vals.length = p.keys.length) ∧ p.keys.length ≤ 4 ∧ p.kids.length ≤ 4 ∧ ∀ k ∈ p.kids, 2 ≤ k ∧ k < 400 := by
 simp only [pgOk, Bool.and_eq_true] at h
 obtain ⟨-, h⟩ := h
 split at h
 ·rename_i h0
  simp only [pgLeaf, Bool.and_eq_true, decide_eq_true_eq] at h
  exact ⟨fun _ => h.2.2, by omega, by omega, fun k hk => by rw [List.eq_nil_of_length_eq_zero h0] at hk; cases hk⟩
 ·rename_i h0
  simp only [pgBranch, Bool.and_eq_true, decide_eq_true_eq] at h
  refine ⟨fun e => absurd e h0, by omega, by omega, fun k hk => ?_⟩
  have := List.all_eq_true.1 h.1 k hk
  simpa [kidOk] using this
open Go.RowKit
instance : DecidableEq PG := fun a b => decidable_of_iff (a.keys = b.keys ∧ a.vals = b.vals ∧ a.kids = b.kids) (by cases a; cases b; simp)
theorem load_pg {w : World} {g : Nat} {x y z : Value} (c0 : w.cell? ⟨g, 0, none⟩ = some x) (c1 : w.cell? ⟨g, 1, none⟩ = some y) (c2 : w.cell? ⟨g, 2, none⟩ = some z) :
  (loadVar 107 ⟨g, 0, none⟩).run Tryz.prog w = .ok (.agg #[x, y, z]) w := by go_simp
theorem results_pg {fn : Func} {p : Tmp} (h : fn.results = #[.cell p 107]) (tmps : Array Value) (w : World) (g : Nat) {x y z : Value} (hp : tmps.getD p undef = .pointer (some ⟨g, 0, none⟩))
  (c0 : w.cell? ⟨g, 0, none⟩ = some x) (c1 : w.cell? ⟨g, 1, none⟩ = some y) (c2 : w.cell? ⟨g, 2, none⟩ = some z) : (results fn tmps).run Tryz.prog w = .ok (.agg #[x, y, z]) w := by
 have hp' : tmps[p]?.getD undef = .pointer (some ⟨g, 0, none⟩) := by simpa using hp
 simp [results, h, hp', asAddr, load_pg c0 c1 c2]
open Go.RowKit
theorem strOf_size (o : List Int) : (strOf o).size = o.length := by
 show (strOf o).data.size = o.length
 simp [strOf]
theorem rd_lit (w : World) (z : Int) (h0 : 0 ≤ z) (h1 : z ≤ 255) : Rd (w.alloc (.cells #[.int .u8 z] 5)) (some ⟨w.heap.size, 0, none⟩) 1 1 [z] := by
 have := rd_new w [z] (by simp) (fun i => by cases i <;> simp <;> omega)
 simpa [byteVals] using this
def mtG : Nat → Nat → ByteArray → ByteArray
 | 0, _, acc => acc
 | f + 1, k, acc => if k = 0 then acc else mtG f (k / 10) (strOf [48 + ((k % 10 : Nat) : Int)] ++ acc)
theorem mtG_end (f : Nat) (acc : ByteArray) : mtG f 0 acc = acc := by cases f <;> simp [mtG]
theorem mtG_step (f k : Nat) (acc : ByteArray) (h : 0 < k) : mtG (f + 1) k acc = mtG f (k / 10) (strOf [48 + ((k % 10 : Nat) : Int)] ++ acc) := by
 simp [mtG]; omega
def mt (k : Nat) : ByteArray := ⟨#[109]⟩ ++ mtG k k ⟨#[]⟩
set_option maxHeartbeats 4000000 in
theorem markText_any (k : Nat) (w : World) (h0 : 0 < k) (h1 : k ≤ 1152921504606846976) : Calls Tryz.prog 156 #[.int .i64 k] w fun e w' => e = .returned (.string (mt k)) ∧ Below w.heap.size w w' := by
 have h0' : ¬ (k : Int) ≤ 0 := by omega
 go_enter Tryz.func156, Tryz.ntmps156
 go_wp2_with fail
 go_loopw [0, 3] (fun x s wr => ∃ (j f : Nat) (acc : ByteArray), x = .int .i64 j ∧ s = .string acc ∧ j ≤ f ∧ Hid (mtG f j acc = mtG k k ⟨#[]⟩) ∧ j + acc.size ≤ k ∧ Hid (Below w.heap.size w wr)) (fun x _ _ => (intOf x).toNat)
 case atStart => exact ⟨k, k, ⟨#[]⟩, rfl, rfl, Nat.le_refl _, rfl, Nat.le_refl _, Below.refl _ _⟩
 case round =>
  obtain ⟨j, f, acc, rfl, rfl, hjf, HM, hsz, HB⟩ := hrel
  rcases Nat.eq_zero_or_pos j with rfl | hj
  ·rw [mtG_end] at HM
   have hcat : (⟨#[109]⟩ : ByteArray).size = 1 := rfl
   have HE : Hid (⟨#[109]⟩ ++ acc = mt k) := by show ⟨#[109]⟩ ++ acc = mt k; rw [HM.out]; rfl
   go_wp2
   go_ret
   exact ⟨by rw [HE.out]; rfl, HB.out⟩
  ·obtain ⟨f, rfl⟩ : ∃ g, f = g + 1 := ⟨f - 1, by omega⟩
   rw [mtG_step f j acc hj] at HM
   have hj' : (0 : Int) < (j : Int) := by omega
   obtain ⟨z, hz⟩ : ∃ z : Nat, z = j % 10 := ⟨_, rfl⟩
   obtain ⟨q, hq⟩ : ∃ q : Nat, q = j / 10 := ⟨_, rfl⟩
   rw [← hz, ← hq] at HM
   have hz1 : z < 10 := by omega
   have hmod : (j : Int).tmod 10 = (z : Int) := by rw [Int.tmod_eq_emod_of_nonneg (by omega)]; omega
   have hdiv : (j : Int).tdiv 10 = (q : Int) := by rw [Int.tdiv_eq_ediv_of_nonneg (by omega)]; omega
   have hqj : q < j := by omega
   have hq2 : q + 1 ≤ j := by omega
   clear hz hq
   have hst := run_str (rd_lit wr (48 + (z : Int)) (by omega) (by omega))
   have hts := strOf_size [48 + (z : Int)]
   simp only [List.length_cons, List.length_nil] at hts
   generalize strOf [48 + (z : Int)] = t at *
   go_wp2
   go_roundw
   case rel => exact ⟨q, f, t ++ acc, by go_num, rfl, by omega, HM, by rw [ByteArray.size_append]; omega, HB.out.alloc HB.out.size _⟩
   case measure => simp [intOf]; omega
theorem markText_at (k : Nat) (z : Int) (hz : z = k) (w : World) (h0 : 0 < k) (h1 : k ≤ 1152921504606846976) : Calls Tryz.prog 156 #[.int .i64 z] w fun e w' => e = .returned (.string (mt k)) ∧ Below w.heap.size w w' := by
 subst hz
 exact markText_any k w h0 h1
open Go.RowKit
def tAt (ks : List T) (i : Nat) : T := ks[i]?.getD default
def ptr (b : Nat) : Value := .pointer (some ⟨b, 0, none⟩)
def ptrs (A : Nat → Nat) (n : Nat) : List Value := (List.range n).map fun i => ptr (A i)
theorem ptrs_at (A : Nat → Nat) (n i : Nat) (h : i < n) : (ptrs A n)[i]? = some (ptr (A i)) := by simp [ptrs, h]
inductive Limb (w : World) : (Nat → Prop) → Nat → T → Prop
 | mk (S : Nat → Prop) (b : Nat) (pv kv : Value) (ps : List PB) (ks : List T) (A : Nat → Nat) (SS : Nat → Nat → Prop)
   (hb : S b) (hB : Bk w b 195 [pv, kv])
   (hP : w.ownsRow 0 112 2 pv ps.length (pcs ps)) (hK : w.ownsRow 0 165 1 kv ks.length (ptrs A ks.length))
   (hPS : ∀ x, pv.ownBlock = some x → S x ∧ x ≠ b) (hKS : ∀ x, kv.ownBlock = some x → S x ∧ x ≠ b ∧ pv.ownBlock ≠ some x)
   (hSS : ∀ i, i < ks.length → ∀ x, SS i x → S x ∧ x ≠ b ∧ pv.ownBlock ≠ some x ∧ kv.ownBlock ≠ some x)
   (hD : ∀ i j, i < ks.length → j < ks.length → i ≠ j → ∀ x, SS i x → ¬ SS j x)
   (hk : ∀ i, i < ks.length → Limb w (SS i) (A i) (tAt ks i)) : Limb w S b (.mk ps ks)
theorem Limb.to {w w' : World} {R : Nat → Prop} (ho : Only R w w') {S : Nat → Prop} {b : Nat} {t : T} (h : Limb w S b t) : (∀ x, S x → ¬ R x) → Limb w' S b t := by
 induction h with
 | mk S b pv kv ps ks A SS hb hB hP hK hPS hKS hSS hD hk ih =>
  intro hR
  exact .mk S b pv kv ps ks A SS hb (hB.to ho (hR b hb)) (own_kept hP ho fun k e => hR k (hPS k e).1) (own_kept hK ho fun k e => hR k (hKS k e).1) hPS hKS hSS hD
   (fun i hi => ih i hi (fun x hx => hR x (hSS i hi x hx).1))
theorem Limb.mono {w : World} {S S' : Nat → Prop} {b : Nat} {t : T} (h : Limb w S b t) (hS : ∀ x, S x → S' x) : Limb w S' b t := by
 cases h with
 | mk _ _ pv kv ps ks A SS hb hB hP hK hPS hKS hSS hD hk =>
  exact .mk S' b pv kv ps ks A SS (hS b hb) hB hP hK (fun x hx => ⟨hS x (hPS x hx).1, (hPS x hx).2⟩) (fun x hx => ⟨hS x (hKS x hx).1, (hKS x hx).2⟩) (fun i hi x hx => ⟨hS x (hSS i hi x hx).1, (hSS i hi x hx).2⟩) hD hk
theorem Limb.kept {w w' : World} {S : Nat → Prop} {b : Nat} {t : T} (h : Limb w S b t) (hb : Below w.heap.size w w') : Limb w' S b t := h.to (only_of_below hb (fun _ => False)) (fun _ _ h => h)
theorem own_max {w : World} {base : Nat} {e : TypeId} {size : Nat} {v : Value} {n : Nat} {xs : List Value} (h : w.ownsRow base e size v n xs) : n ≤ maxLen := by
 rcases h.2 with ⟨rfl, rfl⟩ | ⟨g, cap, cur, rfl, _, _, h5, h6, _⟩
 ·exact Nat.zero_le _
 ·exact Nat.le_trans h5 h6
theorem undrew (w : World) (q : Nat) : Below (w.drewN q).heap.size (w.drewN q) w := ⟨rfl, rfl, rfl, Nat.le_refl _, fun _ _ => rfl⟩
theorem Limb.see {w : World} {S : Nat → Prop} {b : Nat} {t : T} (h : Limb w S b t) : ∃ ap cp ak ck A, w.cell? ⟨b, 0, none⟩ = some (.slice ap t.ps.length cp) ∧ w.cell? ⟨b, 1, none⟩ = some (.slice ak t.ks.length ck) ∧
  Pr w S (.slice ap t.ps.length cp) t.ps ∧ Rw w S (.slice ak t.ks.length ck) t.ks.length (ptrs A t.ks.length) ∧ (∀ i, i < t.ks.length → ∃ S', (∀ x, S' x → S x) ∧ Limb w S' (A i) (tAt t.ks i)) ∧ t.ps.length ≤ maxLen ∧ t.ks.length ≤ maxLen := by
 cases h with
 | mk _ _ pv kv ps ks A SS hb hB hP hK hPS hKS hSS hD hk =>
  obtain ⟨ap, cp, rfl⟩ := own_shape hP
  obtain ⟨ak, ck, rfl⟩ := own_shape hK
  exact ⟨ap, cp, ak, ck, A, hB.cell (j := 0) rfl, hB.cell (j := 1) rfl, rw_own hP (fun k e _ _ => (hPS k e).1), rw_own hK (fun k e _ _ => (hKS k e).1), fun i hi => ⟨SS i, fun x hx => (hSS i hi x hx).1, hk i hi⟩, own_max hP, own_max hK⟩
theorem isLeaf_any (S : Nat → Prop) (b : Nat) (t : T) (w : World) (h : Limb w S b t) : Calls Tryz.prog 192 #[.pointer (some ⟨b, 0, none⟩)] w fun e w' => e = .returned (.bool (decide (t.ks.length = 0))) ∧ w' = w := by
 obtain ⟨ap, cp, ak, ck, A, c0, c1, _, _, _, _, _⟩ := h.see
 clear h
 generalize t.ks.length = n at *
 by_cases hn : n = 0
 ·subst hn
  go_enter Tryz.func192, Tryz.ntmps192
  go_wp2
  go_ret
  exact ⟨rfl, rfl⟩
 ·have HE : Hid (decide (n = 0) = false) := decide_eq_false hn
  have hn' : ((n : Int) == 0) = false := by simp; omega
  go_enter Tryz.func192, Tryz.ntmps192
  go_wp2
  go_ret
  exact ⟨by rw [HE.out]; rfl, rfl⟩
def T.bare (t : T) : Bool := decide (t.ps.length + t.ks.length = 0)
theorem isBare_any (S : Nat → Prop) (b : Nat) (t : T) (w : World) (h : Limb w S b t) (hs : t.ps.length + t.ks.length ≤ 1048576) : Calls Tryz.prog 193 #[.pointer (some ⟨b, 0, none⟩)] w fun e w' => e = .returned (.bool t.bare) ∧ ∃ q, w' = w.drewN q := by
 obtain ⟨ap, cp, ak, ck, A, c0, c1, _, _, _, _, _⟩ := h.see
 clear h
 have HE : t.bare = decide (t.ps.length + t.ks.length = 0) := rfl
 generalize t.ks.length = n at *
 generalize t.ps.length = m at *
 generalize t.bare = Z at *
 have hz : ((m : Int) + (n : Int) == 0) = Z := by
  rw [HE]
  by_cases h : m + n = 0
  ·rw [decide_eq_true h]; simp; omega
  ·rw [decide_eq_false h]; simp; omega
 clear HE
 have hw : IntKind.i64.wrap ((m : Int) + (n : Int)) = (m : Int) + (n : Int) := by rw [IntKind.wrap_i64]; omega
 go_enter Tryz.func193, Tryz.ntmps193
 go_wp2
 go_quiet (fail)
 go_wp2
 go_ret
 exact ⟨rfl, _, rfl⟩
def T.ne : T → Prop
 | .mk ps [] => ps ≠ []
 | .mk _ (k :: _) => k.ne
set_option maxHeartbeats 2000000 in
theorem least_any (S : Nat → Prop) (b : Nat) (t : T) (w : World) (h : Limb w S b t) (hne : t.ne) : Calls Tryz.prog 184 #[.pointer (some ⟨b, 0, none⟩)] w fun e w' => e = .returned (.string t.least) ∧ ∃ q, w' = w.drewN q := by
 have H0 := hid h
 have HE := hid hne
 clear h hne
 go_enter Tryz.func184, Tryz.ntmps184
 go_wp2_with fail
 go_loopg [0] t.lv (fun k p wr => ∃ (b' : Nat) (S' : Nat → Prop) (t' : T) (q : Nat), p = .pointer (some ⟨b', 0, none⟩) ∧ wr = w.drewN q ∧ Hid (Limb w S' b' t') ∧ Hid (t'.ne ∧ t'.least = t.least ∧ k = t'.lv))
 case atStart => exact ⟨b, S, t, 0, rfl, rfl, H0.out, HE.out, rfl, rfl⟩
 case round =>
  obtain ⟨b', S', t', q, rfl, rfl, HL, HT⟩ := hrel
  have HL1 := hid (HL.out.kept (Below.drewN' (Below.refl _ _) q))
  go_wp2_with fail
  refine (isLeaf_any S' b' t' _ HL1.out).mono ?_
  rintro e w1 ⟨rfl, rfl⟩
  obtain ⟨ps, ks⟩ := t'
  obtain ⟨ap, cp, ak, ck, A, c0, c1, hp, hk, hkid, _, _⟩ := HL1.out.see
  cases ks with
  | nil =>
   obtain ⟨p, ps', rfl⟩ : ∃ p ps', ps = p :: ps' := List.exists_cons_of_ne_nil HT.out.1
   obtain ⟨x, off, rfl, _, _, hc⟩ := hp.at (by simp [T.ps])
   have d0 := (hc 0 (by simp [T.ps])).1
   simp only [T.ps, T.ks, pAtB, Nat.zero_mul, Nat.add_zero, List.length_cons, List.length_nil, List.getElem?_cons_zero, Option.getD_some, decide_true] at *
   have HR : Hid (p.1 = t.least) := HT.out.2.1
   obtain ⟨p1, p2⟩ := p
   simp only at d0 HR
   clear hc hk hkid hp
   go_wp2
   go_ret
   exact ⟨by rw [← HR.out]; rfl, q, rfl⟩
  | cons k ks =>
   obtain ⟨x, off, rfl, _, _, hc⟩ := Rw.at hk (by simp [T.ks])
   have d0 := hc 0 _ (ptrs_at A _ 0 (by simp [T.ks]))
   obtain ⟨S1, _, hk0⟩ := hkid 0 (by simp [T.ks])
   have HK0 : Hid (Limb w S1 (A 0) k) := by
    have : tAt (T.mk ps (k :: ks)).ks 0 = k := rfl
    rw [this] at hk0
    exact hk0.kept (undrew w q)
   have hz : decide ((T.mk ps (k :: ks)).ks.length = 0) = false := rfl
   rw [hz]
   simp only [T.ps, T.ks, Nat.add_zero, List.length_cons, ptr] at *
   have hpos : (0 : Int) < (ks.length : Int) + 1 := by omega
   clear hc hk hkid hp hk0 hz
   go_wp2
   go_roundg k.lv
   case measure => have := HT.out.2.2; simp [T.lv] at this; omega
   case rel => exact ⟨A 0, S1, k, q, rfl, rfl, HK0.out, HT.out.1, HT.out.2.1, rfl⟩
def T.dpt (t : T) : Nat := if t.bare = true then 0 else t.lv
set_option maxHeartbeats 2000000 in
theorem depth_any (S : Nat → Prop) (b : Nat) (t : T) (w : World) (h : Limb w S b t) (hs : t.ps.length + t.ks.length ≤ 1048576) (hlv : t.lv ≤ 1048576) : Calls Tryz.prog 185 #[.pointer (some ⟨b, 0, none⟩)] w fun e w' => e = .returned (.int .i64 (t.dpt : Int)) ∧ ∃ q, w' = w.drewN q := by
 have H0 := hid h
 clear h
 have HD : Hid (t.dpt = if t.bare = true then 0 else t.lv) := rfl
 go_enter Tryz.func185, Tryz.ntmps185
 go_wp2_with fail
 refine (isBare_any S b t _ H0.out hs).mono ?_
 rintro e w0 ⟨rfl, q0, rfl⟩
 cases hbare : t.bare
 ·have HD1 : Hid (t.dpt = t.lv) := by show _ = _; rw [HD.out, hbare]; rfl
  clear HD hbare
  go_wp2_with fail
  go_loopg [0, 3] t.lv (fun k p d wr => ∃ (b' : Nat) (S' : Nat → Prop) (t' : T) (q m : Nat), p = .pointer (some ⟨b', 0, none⟩) ∧ d = .int .i64 (m : Int) ∧ wr = w.drewN q ∧ Hid (Limb w S' b' t') ∧ Hid (t'.lv + m = t.lv + 1 ∧ k = t'.lv))
  case atStart => exact ⟨b, S, t, q0, 1, rfl, rfl, rfl, H0.out, rfl, rfl⟩
  case round =>
   obtain ⟨b', S', t', q, m, rfl, rfl, rfl, HL, HT⟩ := hrel
   have HL1 := hid (HL.out.kept (Below.drewN' (Below.refl _ _) q))
   go_wp2_with fail
   refine (isLeaf_any S' b' t' _ HL1.out).mono ?_
   rintro e w1 ⟨rfl, rfl⟩
   obtain ⟨ps, ks⟩ := t'
   obtain ⟨ap, cp, ak, ck, A, c0, c1, hp, hk, hkid, _, _⟩ := HL1.out.see
   cases ks with
   | nil =>
    have HR : Hid ((m : Int) = (t.dpt : Int)) := by
     show _ = _
     have := HT.out.1
     rw [HD1.out]
     simp [T.lv] at this
     omega
    clear hk hkid hp
    go_wp2
    go_ret
    exact ⟨by rw [← HR.out]; rfl, q, rfl⟩
   | cons k ks =>
    obtain ⟨x, off, rfl, _, _, hc⟩ := Rw.at hk (by simp [T.ks])
    have d0 := hc 0 _ (ptrs_at A _ 0 (by simp [T.ks]))
    obtain ⟨S1, _, hk0⟩ := hkid 0 (by simp [T.ks])
    have HK0 : Hid (Limb w S1 (A 0) k) := by
     have : tAt (T.mk ps (k :: ks)).ks 0 = k := rfl
     rw [this] at hk0
     exact hk0.kept (undrew w q)
    have hz : decide ((T.mk ps (k :: ks)).ks.length = 0) = false := rfl
    rw [hz]
    have hm : m ≤ 1048577 := by have := HT.out.1; simp [T.lv] at this; omega
    simp only [T.ps, T.ks, Nat.add_zero, List.length_cons, ptr] at *
    have hpos : (0 : Int) < (ks.length : Int) + 1 := by omega
    clear hc hk hkid hp hk0 hz
    go_wp2
    go_roundg k.lv
    case measure => have := HT.out.2; simp [T.lv] at this; omega
    case rel => exact ⟨A 0, S1, k, q, m + 1, rfl, by go_num, rfl, HK0.out, by have := HT.out.1; simp [T.lv] at this; omega, rfl⟩
 ·have HD1 : Hid (t.dpt = 0) := by show _ = _; rw [HD.out, hbare]; rfl
  clear HD hbare
  go_wp2
  go_ret
  exact ⟨by rw [HD1.out]; rfl, q0, rfl⟩
open Go.RowKit
def Ow (w : World) (base : Nat) (v : Value) (l : List PB) : Prop := w.ownsRow base 112 2 v l.length (pcs l)
theorem Ow.to {w w' : World} {R : Nat → Prop} {base : Nat} {v : Value} {l : List PB} (h : Ow w base v l) (ho : Only R w w') (hR : ∀ k, v.ownBlock = some k → ¬ R k) : Ow w' base v l := own_kept h ho hR
theorem Ow.kept {w w' : World} {base : Nat} {v : Value} {l : List PB} (h : Ow w base v l) (hb : Below w.heap.size w w') : Ow w' base v l := h.to (only_of_below hb (fun _ => False)) (fun _ _ h => h)
theorem Ow.pr {w : World} {base : Nat} {v : Value} {l : List PB} (h : Ow w base v l) {S : Nat → Prop} (hS : ∀ k, v.ownBlock = some k → base ≤ k → k < w.heap.size → S k) : Pr w S v l := rw_own h hS
theorem Ow.shape' {w : World} {base : Nat} {v : Value} {l : List PB} (h : Ow w base v l) : ∃ a n c, v = .slice a n c ∧ Hid (n = l.length) := by
 obtain ⟨a, c, rfl⟩ := own_shape h
 exact ⟨a, _, c, rfl, rfl⟩
theorem ow_nil (w : World) (base : Nat) : Ow w base (.slice none 0 0) [] := World.ownsRow_nil w base _ _
theorem wpList_append_pairs {w : World} {ops : Array Oper} {rest : List Oper} {o : Oper} {a : Act} {Q : Exit → Act → World → Prop} (hgd : o.guard = none) (s x : Operand)
  (ho : o.op = .call { callee := .builtin .append, args := #[s, x], argTypes := #[82, 82] }) (base : Nat) (v : Value) (l : List PB) (hs : a.eval s = v) (hown : Ow w base v l)
  (S : Nat → Prop) (src : Value) (m : List PB) (hx : a.eval x = src) (hsrc : Pr w S src m) (hb : l.length + m.length ≤ 2097154) (hbase : base ≤ w.heap.size)
  (h : ∀ v' w', Ow w' base v' (l ++ m) → w.grownBy w' v.ownBlock → wpList Tryz.prog ops Q rest (a.put o.dst v') w') : wpList Tryz.prog ops Q (o :: rest) a w := by
 obtain ⟨i, hi, hz, hsz, hby⟩ := info_of infoPairI
 refine wpList_append_row hgd s x 82 ho base 112 i _ 2 32 Tryz.underlying82 hi hz hsz hby rfl (by decide) v l.length (pcs l) hs hown S src m.length (pcs m) hx hsrc (pcs_length m) (pcs_one m) (by unfold maxLen; omega) (by omega) hbase ?_
 intro v' w' h1 h2
 refine h v' w' ?_ h2
 unfold Ow
 rw [List.length_append, pcs_append]
 exact h1
theorem only_of_belowB {B : Nat} {w w' : World} (h : Below B w w') : Only (fun b => B ≤ b) w w' := ⟨h.os, h.tape, h.output, h.size, fun b _ hn => h.block b (by omega)⟩
theorem grown_belowB {w w' : World} {base : Nat} {v : Value} {l : List PB} (h : Ow w base v l) (hg : w.grownBy w' v.ownBlock) (hB : base ≤ w.heap.size) : Below base w w' := (Below.refl _ _).grown hg hB fun k hk => (World.ownsRow.lt h k hk).1
theorem allL_take (ks : List T) (k : Nat) (h : k < ks.length) : allL (ks.take (k + 1)) = allL (ks.take k) ++ (tAt ks k).all := by
 induction ks generalizing k with
 | nil => simp at h
 | cons x ks ih =>
  cases k with
  | zero => simp [allL, tAt]
  | succ k =>
   have := ih k (by simpa using h)
   simp only [List.take_succ_cons, allL, this, List.append_assoc]
   rfl
theorem allL_take_le (ks : List T) (k : Nat) : (allL (ks.take k)).length ≤ (allL ks).length := by
 induction ks generalizing k with
 | nil => simp [allL]
 | cons x ks ih =>
  cases k with
  | zero => simp [allL]
  | succ k =>
   have := ih k
   simp only [List.take_succ_cons, allL, List.length_append]
   omega
set_option maxHeartbeats 4000000 in
theorem all_any (t : T) : ∀ (S : Nat → Prop) (b : Nat) (w : World) (base : Nat) (v : Value) (l : List PB), Limb w S b t → (∀ x, S x → x < base) → base ≤ w.heap.size → Ow w base v l → l.length + t.all.length ≤ 1048576 →
  Calls Tryz.prog 153 #[.pointer (some ⟨b, 0, none⟩), v] w fun e w' => ∃ v', e = .returned v' ∧ Ow w' base v' (l ++ t.all) ∧ Below base w w' := by
 induction t using T.ind
 rename_i ps ks ih
 intro S b w base v l hL hS hbase hO hlen
 have H0 := hid hL
 have HO := hid hO
 have HS := hid hS
 have HIH := hid ih
 have HLE := hid hlen
 obtain ⟨ap, cp, ak, ck, A, c0, c1, hp, hk, hkid, _, _⟩ := hL.see
 have HP := hid hp
 have HK := hid hk
 obtain ⟨av, nv, cv, hv, HNV⟩ := hO.shape'
 have HLP : Hid (l.length + ps.length + (allL ks).length ≤ 1048576) := by
  show _ ≤ _
  have := hlen
  simp [T.all] at this
  omega
 simp only [T.ps, T.ks] at *
 clear hL hO hS ih hlen hp hk hkid
 subst hv
 go_enter Tryz.func153, Tryz.ntmps153
 go_wp2_with (at_builtin; refine wpList_append_pairs rfl _ _ rfl base _ l rfl HO.out S _ ps rfl HP.out ?b1 ?b2 ?_)
 case b1 => have := HLP.out; omega
 case b2 => exact hbase
 intro v1 w1 hO1 hg1
 have HB1 := hid (grown_belowB HO.out hg1 hbase)
 have HO1 := hid hO1
 have HL1 := hid (H0.out.to (only_of_belowB HB1.out) (fun x hx h => by have := HS.out x hx; omega))
 obtain ⟨a1, n1, cc1, hv1, HN1⟩ := hO1.shape'
 clear hO1 hg1
 subst hv1
 clear c0 c1 HP HK
 obtain ⟨ap', cp', ak', ck', A', c0, c1, hp, hk, hkid, m1, m2⟩ := HL1.out.see
 have HK := hid hk
 have HKID := hid hkid
 simp only [T.ps, T.ks] at c0 c1 m2
 have hm2 : ks.length ≤ 9223372036854775807 := m2
 clear hp hk hkid m1 m2
 generalize hn : ks.length = n at *
 have HN := hid hn
 clear hn
 go_wp2_with fail
 go_loopw [1, 18] (fun x i wr => ∃ (k : Nat) (v' : Value), k ≤ n ∧ i = .int .i64 k ∧ x = v' ∧ Hid (Ow wr base v' (l ++ ps ++ allL (ks.take k))) ∧ Hid (Below base w1 wr) ∧ Hid (Below base w wr)) (fun _ i _ => n - (intOf i).toNat)
 case atStart => exact ⟨0, _, Nat.zero_le _, rfl, rfl, by show Ow _ _ _ _; simpa [allL] using HO1.out, Below.refl _ _, HB1.out⟩
 case round =>
  obtain ⟨k, v', hk, rfl, hv', HO2, HB12, HB2⟩ := hrel
  obtain ⟨a2, n2, cc2, hv2, HN2⟩ := HO2.out.shape'
  subst hv2
  subst hv'
  by_cases hlt : k < n
  ·have hlt' : (k : Int) < (n : Int) := by omega
   have HL2 := hid (H0.out.to (only_of_belowB HB2.out) (fun x hx h => by have := HS.out x hx; omega))
   have hks : k < ks.length := by rw [HN.out]; exact hlt
   obtain ⟨x, off, rfl, hSx, hxw, hc⟩ := Rw.at (HK.out.to (only_of_belowB HB12.out) (fun x hx _ h => by have := HS.out x hx; omega)) (by simp only [T.ks]; omega)
   have d0 := hc k _ (ptrs_at A' _ k (by simp only [T.ks]; omega))
   obtain ⟨S1, hS1, hk0⟩ := HKID.out k (by simp only [T.ks]; omega)
   have HK0 := hid (hk0.to (only_of_belowB HB12.out) (fun x hx h => by have := HS.out x (hS1 x hx); omega))
   have HS1 : Hid (∀ x, S1 x → x < base) := fun x hx => HS.out x (hS1 x hx)
   have HTK : Hid (allL (ks.take (k + 1)) = allL (ks.take k) ++ (tAt ks k).all) := allL_take ks k hks
   have HLEN : Hid ((l ++ ps ++ allL (ks.take k)).length + (tAt ks k).all.length ≤ 1048576) := by
    show _ ≤ _
    have h1 := allL_take_le ks (k + 1)
    have h2 := HLP.out
    rw [HTK.out] at h1
    simp only [List.length_append] at h1 ⊢
    omega
   have HMEM : Hid (tAt ks k ∈ ks) := by
    show _ ∈ _
    simp only [tAt, List.getElem?_eq_getElem hks, Option.getD_some]
    exact List.getElem_mem hks
   simp only [T.ks, ptr] at d0 HK0
   clear hc hk0 hS1 hxw hSx
   go_wp2_with fail
   refine (HIH.out (tAt ks k) HMEM.out S1 (A' k) wr base (.slice a2 n2 cc2) (l ++ ps ++ allL (ks.take k)) HK0.out HS1.out (Nat.le_trans hbase HB2.out.size) HO2.out HLEN.out).mono ?_
   rintro e w3 ⟨v3, rfl, hO3, hb3⟩
   have HO3 : Hid (Ow w3 base v3 (l ++ ps ++ allL (ks.take (k + 1)))) := by
    show Ow _ _ _ _
    rw [HTK.out, ← List.append_assoc]
    exact hO3
   have HB3 := hid (HB2.out.trans hb3)
   have HB4 := hid (HB12.out.trans hb3)
   obtain ⟨a3, n3, cc3, hv3, HN3⟩ := hO3.shape'
   subst hv3
   clear hO3 hb3
   go_wp2
   go_roundw
   case rel => exact ⟨k + 1, _, by omega, by go_num, rfl, HO3.out, HB4.out, HB3.out⟩
   case measure => simp [intOf]; omega
  ·have hk' : k = n := by omega
   have HO3 : Hid (Ow wr base (.slice a2 n2 cc2) (l ++ (T.mk ps ks).all)) := by
    show Ow _ _ _ _
    have e : l ++ (T.mk ps ks).all = l ++ ps ++ allL (ks.take k) := by rw [hk', ← HN.out, List.take_length]; simp [T.all]
    rw [e]
    exact HO2.out
   clear hk'
   go_wp2
   go_ret
   exact ⟨_, rfl, HO3.out, HB2.out⟩
open Go.RowKit
set_option linter.unusedVariables false
def isStr (u : Value) : Prop := ∃ s, u = .string s
def isInt (u : Value) : Prop := ∃ i, u = .int .i64 i
def simV (x y : Value) : Prop := x = y ∨ (isStr x ∧ isStr y) ∨ (isInt x ∧ isInt y)
theorem simV.trans {x y z : Value} (h : simV x y) (k : simV y z) : simV x z := by
 rcases h with rfl | ⟨h1, h2⟩ | ⟨h1, h2⟩
 ·exact k
 ·rcases k with rfl | ⟨k1, k2⟩ | ⟨k1, k2⟩
  ·exact .inr (.inl ⟨h1, h2⟩)
  ·exact .inr (.inl ⟨h1, k2⟩)
  ·obtain ⟨s, rfl⟩ := h2; obtain ⟨i, hi⟩ := k1; cases hi
 ·rcases k with rfl | ⟨k1, k2⟩ | ⟨k1, k2⟩
  ·exact .inr (.inr ⟨h1, h2⟩)
  ·obtain ⟨s, rfl⟩ := h2; obtain ⟨i, hi⟩ := k1; cases hi
  ·exact .inr (.inr ⟨h1, k2⟩)
def Kind (K : Value → Prop) : Prop := ∀ x y, K x → simV x y → K y
theorem kind_str : Kind isStr := by
 rintro x y hx (rfl | ⟨_, h⟩ | ⟨h, _⟩)
 ·exact hx
 ·exact h
 ·obtain ⟨s, rfl⟩ := hx; obtain ⟨i, hi⟩ := h; cases hi
theorem kind_int : Kind isInt := by
 rintro x y hx (rfl | ⟨h, _⟩ | ⟨_, h⟩)
 ·exact hx
 ·obtain ⟨s, rfl⟩ := hx; obtain ⟨i, hi⟩ := h; cases hi
 ·exact h
structure Mk (S : Nat → Prop) (w w' : World) : Prop where
 only : Only S w w'
 sim : ∀ b T xs, Bk w b T xs → S b → ∃ ys, Bk w' b T ys ∧ ∀ (j : Nat) u, xs[j]? = some u → ∃ u', ys[j]? = some u' ∧ simV u u'
theorem Mk.refl (S : Nat → Prop) (w : World) : Mk S w w := ⟨Only.refl _ _, fun b T xs h _ => ⟨xs, h, fun j u hu => ⟨u, hu, .inl rfl⟩⟩⟩
theorem Mk.trans {S : Nat → Prop} {a b c : World} (h : Mk S a b) (k : Mk S b c) : Mk S a c := by
 refine ⟨h.only.trans k.only, fun g T xs hb hS => ?_⟩
 obtain ⟨ys, h1, h2⟩ := h.sim g T xs hb hS
 obtain ⟨zs, h3, h4⟩ := k.sim g T ys h1 hS
 refine ⟨zs, h3, fun j u hu => ?_⟩
 obtain ⟨u', h5, h6⟩ := h2 j u hu
 obtain ⟨u'', h7, h8⟩ := h4 j u' h5
 exact ⟨u'', h7, h6.trans h8⟩
theorem mk_below {S : Nat → Prop} {w w' : World} (h : Below w.heap.size w w') : Mk S w w' := ⟨only_of_below h S, fun b T xs hb _ => ⟨xs, hb.below h, fun j u hu => ⟨u, hu, .inl rfl⟩⟩⟩
theorem mk_set {S : Nat → Prop} {w : World} {b o : Nat} {T : TypeId} {xs : List Value} {x y : Value} (hb : Bk w b T xs) (hS : S b) (hx : xs[o]? = some x) (hs : simV x y) : Mk S w (w.setCell ⟨b, o, none⟩ y) := by
 refine ⟨only_set hS y, fun g T' zs hg _ => ?_⟩
 by_cases e : g = b
 ·subst e
  refine ⟨_, hg.set o y, fun j u hu => ?_⟩
  have hz : some (Obj.cells xs.toArray T (0, 0)) = some (Obj.cells zs.toArray T' (0, 0)) := hb.symm.trans hg
  simp at hz
  obtain ⟨rfl, rfl⟩ := hz
  by_cases ej : j = o
  ·subst ej
   rw [hx] at hu
   cases hu
   exact ⟨y, by simp [(List.getElem?_eq_some_iff.1 hx).1], hs⟩
  ·exact ⟨u, by rw [List.getElem?_set_ne (Ne.symm ej)]; exact hu, .inl rfl⟩
 ·exact ⟨zs, hg.setOther e _ _, fun j u hu => ⟨u, hu, .inl rfl⟩⟩
theorem Uf.bk {w : World} {b : Nat} (h : Uf w b) : ∃ T xs, Bk w b T xs := by
 obtain ⟨xs, T, h⟩ := h
 exact ⟨T, xs.toList, by show _ = _; simpa using h⟩
theorem Mk.uf {S : Nat → Prop} {w w' : World} (m : Mk S w w') {b : Nat} (h : Uf w b) : Uf w' b := by
 obtain ⟨T, xs, hb⟩ := h.bk
 by_cases hS : S b
 ·obtain ⟨ys, h1, _⟩ := m.sim b T xs hb hS
  exact h1.uf
 ·exact (hb.to m.only hS).uf
theorem bk_cell {w : World} {b o : Nat} {T : TypeId} {xs : List Value} {u : Value} (h : Bk w b T xs) (hc : w.cell? ⟨b, o, none⟩ = some u) : xs[o]? = some u := by
 have h' : w.heap[b]? = some (.cells xs.toArray T (0, 0)) := h
 simpa [World.cell?, h'] using hc
theorem Mk.cell {S : Nat → Prop} {w w' : World} (m : Mk S w w') {b o : Nat} {u : Value} (hu : Uf w b) (hc : w.cell? ⟨b, o, none⟩ = some u) : ∃ u', w'.cell? ⟨b, o, none⟩ = some u' ∧ simV u u' := by
 obtain ⟨T, xs, hb⟩ := hu.bk
 have hx := bk_cell hb hc
 by_cases hS : S b
 ·obtain ⟨ys, h1, h2⟩ := m.sim b T xs hb hS
  obtain ⟨u', h3, h4⟩ := h2 o u hx
  exact ⟨u', h1.cell h3, h4⟩
 ·exact ⟨u, (hb.to m.only hS).cell hx, .inl rfl⟩
def Kw (w : World) (S : Nat → Prop) (v : Value) (n m : Nat) (K : Value → Prop) : Prop :=
 ∃ a c, v = .slice a n c ∧ n ≤ c ∧ c ≤ 9223372036854775807 ∧ (0 < n → ∃ b off, a = some ⟨b, off, none⟩ ∧ S b ∧ Uf w b ∧ ∀ j, j < m → ∃ u, w.cell? ⟨b, off + j, none⟩ = some u ∧ K u)
theorem Kw.mk {S S' : Nat → Prop} {w w' : World} {v : Value} {n m : Nat} {K : Value → Prop} (h : Kw w S v n m K) (hm : Mk S' w w') (hK : Kind K) : Kw w' S v n m K := by
 obtain ⟨a, c, h1, h2, h3, h4⟩ := h
 refine ⟨a, c, h1, h2, h3, fun hn => ?_⟩
 obtain ⟨b, off, h5, h6, h7, h8⟩ := h4 hn
 refine ⟨b, off, h5, h6, hm.uf h7, fun j hj => ?_⟩
 obtain ⟨u, h9, h10⟩ := h8 j hj
 obtain ⟨u', h11, h12⟩ := hm.cell h7 h9
 exact ⟨u', h11, hK _ _ h10 h12⟩
theorem kw_of {w : World} {S S' : Nat → Prop} {v : Value} {n : Nat} {xs : List Value} {K : Value → Prop} (h : Rw w S v n xs) (hx : ∀ u ∈ xs, K u) (hS : ∀ b, S b → b < w.heap.size → S' b ∧ Uf w b) : Kw w S' v n xs.length K := by
 obtain ⟨a, c, h1, h2, h3, h4, hn, h5⟩ := h
 refine ⟨a, c, h1, h2, h3, fun hp => ?_⟩
 obtain ⟨b, off, h6, h7, h8, h9⟩ := h5 hp
 refine ⟨b, off, h6, (hS b h8 h7).1, (hS b h8 h7).2, fun j hj => ?_⟩
 exact ⟨xs[j], h9 j _ (by simp [hj]), hx _ (by simp)⟩
def Mi (w : World) (b off m i : Nat) (V : Nat → Value) (K : Value → Prop) : Prop := ∃ T xs, Bk w b T xs ∧ (∀ j, j < m → ∃ u, xs[off + j]? = some u ∧ K u) ∧ ∀ j, j < i → xs[off + j]? = some (V j)
theorem Mi.start {w : World} {b off m : Nat} {V : Nat → Value} {K : Value → Prop} (hu : Uf w b) (h : ∀ j, j < m → ∃ u, w.cell? ⟨b, off + j, none⟩ = some u ∧ K u) : Mi w b off m 0 V K := by
 obtain ⟨T, xs, hb⟩ := hu.bk
 refine ⟨T, xs, hb, fun j hj => ?_, fun j hj => absurd hj (Nat.not_lt_zero _)⟩
 obtain ⟨u, h1, h2⟩ := h j hj
 exact ⟨u, bk_cell hb h1, h2⟩
theorem Mi.below {w w' : World} {b off m i : Nat} {V : Nat → Value} {K : Value → Prop} (h : Mi w b off m i V K) (hb : Below w.heap.size w w') : Mi w' b off m i V K := by
 obtain ⟨T, xs, h1, h2, h3⟩ := h
 exact ⟨T, xs, h1.below hb, h2, h3⟩
theorem Mi.cell {w : World} {b off m i : Nat} {V : Nat → Value} {K : Value → Prop} (h : Mi w b off m i V K) {j : Nat} (hj : j < m) : (∃ u, w.cell? ⟨b, off + j, none⟩ = some u ∧ K u) ∧ w.frozen? ⟨b, off + j, none⟩ = false := by
 obtain ⟨T, xs, h1, h2, h3⟩ := h
 obtain ⟨u, h4, h5⟩ := h2 j hj
 exact ⟨⟨u, h1.cell h4, h5⟩, h1.free _⟩
theorem Mi.set {w : World} {b off m i : Nat} {V : Nat → Value} {K : Value → Prop} (h : Mi w b off m i V K) {o : Nat} (ho : o = off + i) (hi : i < m) (hK : K (V i)) : Mi (w.setCell ⟨b, o, none⟩ (V i)) b off m (i + 1) V K := by
 subst ho
 obtain ⟨T, xs, h1, h2, h3⟩ := h
 refine ⟨T, _, h1.set _ _, fun j hj => ?_, fun j hj => ?_⟩
 ·obtain ⟨u, h4, h5⟩ := h2 j hj
  by_cases e : j = i
  ·subst e
   exact ⟨V j, by simp [(List.getElem?_eq_some_iff.1 h4).1], hK⟩
  ·exact ⟨u, by rw [List.getElem?_set_ne (by omega)]; exact h4, h5⟩
 ·by_cases e : j = i
  ·subst e
   obtain ⟨u, h4, _⟩ := h2 j hi
   simp [(List.getElem?_eq_some_iff.1 h4).1]
  ·rw [List.getElem?_set_ne (by omega)]
   exact h3 j (by omega)
open Go.RowKit
def mV (k : Nat) (j : Nat) : Value := .string (mt (k + j))
def mI (k : Nat) (j : Nat) : Value := .int .i64 ((k + j : Nat) : Int)
theorem mi_mk {S : Nat → Prop} {w : World} {b off m i : Nat} {V : Nat → Value} {K : Value → Prop} (h : Mi w b off m i V K) (hS : S b) {o : Nat} (ho : o = off + i) (hi : i < m) (hs : ∀ u, K u → simV u (V i)) : Mk S w (w.setCell ⟨b, o, none⟩ (V i)) := by
 subst ho
 obtain ⟨T, xs, h1, h2, h3⟩ := h
 obtain ⟨u, h4, h5⟩ := h2 i hi
 exact mk_set h1 hS h4 (hs u h5)
theorem sim_mV (k i : Nat) : ∀ u, isStr u → simV u (mV k i) := fun _ hu => .inr (.inl ⟨hu, _, rfl⟩)
theorem sim_mI (k i : Nat) : ∀ u, isInt u → simV u (mI k i) := fun _ hu => .inr (.inr ⟨hu, _, rfl⟩)
def Marked (S : Nat → Prop) (w : World) (a : Option Addr) (n m : Nat) (V : Nat → Value) (K : Value → Prop) (w' : World) : Prop := Mk S w w' ∧ (0 < n → ∃ b off, a = some ⟨b, off, none⟩ ∧ S b ∧ Mi w' b off m m V K)
set_option maxHeartbeats 4000000 in
theorem markPairS_any (S : Nat → Prop) (a : Option Addr) (n c k : Nat) (w : World) (h : Kw w S (.slice a n c) n (n * 2) isStr) (hn : n ≤ 1048576) (hk0 : 0 < k) (hk : k ≤ 576460752303423488) :
  Calls Tryz.prog 122 #[.slice a n c, .int .i64 k] w fun e w' => e = .returned (.int .i64 ((k + n * 2 : Nat) : Int)) ∧ Marked S w a n (n * 2) (mV k) isStr w' := by
 obtain ⟨a', c', h1, h2, h3, h4⟩ := h
 cases h1
 rcases Nat.eq_zero_or_pos n with hz | hp
 ·clear h4
  subst hz
  go_enter Tryz.func122, Tryz.ntmps122
  go_wp2_with fail
  go_loop [1, 5] (fun x i => x = .int .i64 k ∧ i = .int .i64 (0 : Nat)) (fun _ _ => 0)
  case atStart => exact ⟨rfl, rfl⟩
  case round =>
   obtain ⟨rfl, rfl⟩ := hrel
   go_wp2
   go_ret
   exact ⟨rfl, Mk.refl _ _, fun h => absurd h (Nat.lt_irrefl _)⟩
 ·obtain ⟨b, off, rfl, hS, hu, hc⟩ := h4 hp
  have HI : Hid (Mi w b off (n * 2) 0 (mV k) isStr) := Mi.start hu hc
  have HS := hid hS
  clear h4 hc hu hS
  go_enter Tryz.func122, Tryz.ntmps122
  go_wp2_with fail
  go_loopw [1, 5] (fun x i wr => ∃ j : Nat, x = .int .i64 ((k + j * 2 : Nat) : Int) ∧ i = .int .i64 j ∧ j ≤ n ∧ Hid (Mi wr b off (n * 2) (j * 2) (mV k) isStr) ∧ Hid (Mk S w wr)) (fun _ i _ => n - (intOf i).toNat)
  case atStart => exact ⟨0, rfl, rfl, Nat.zero_le _, HI.out, Mk.refl _ _⟩
  case round =>
   obtain ⟨j, rfl, rfl, hj, HX, HG⟩ := hrel
   by_cases hlt : j < n
   ·have hlt' : (j : Int) < (n : Int) := by omega
    have hj0 : (0 : Int) ≤ (j : Int) := by omega
    generalize hkz : k + j * 2 = kz
    have hkz0 : 0 < kz := by omega
    have hkz1 : kz ≤ 576460754400575488 := by omega
    have HK := hid hkz
    clear hkz
    go_wp2_with fail
    refine (markText_at kz (kz : Int) rfl wr hkz0 (by omega)).mono ?_
    rintro e w1 ⟨rfl, hb1⟩
    have HX1 := hid (HX.out.below hb1)
    have HG1 := hid (HG.out.trans (mk_below hb1))
    clear hb1 HX HG
    obtain ⟨⟨u0, c0, s0⟩, f0⟩ := HX1.out.cell (j := j * 2) (by omega)
    obtain ⟨u0, rfl⟩ := s0
    have HX2 : Hid (Mi (w1.setCell ⟨b, off + j * 2, none⟩ (.string (mt kz))) b off (n * 2) (j * 2 + 1) (mV k) isStr) := by rw [← HK.out]; exact HX1.out.set rfl (by omega) ⟨_, rfl⟩
    have HG2 : Hid (Mk S w (w1.setCell ⟨b, off + j * 2, none⟩ (.string (mt kz)))) := by rw [← HK.out]; exact HG1.out.trans (mi_mk HX1.out HS.out rfl (by omega) (sim_mV k (j * 2)))
    clear HX1 HG1
    generalize mt kz = m0 at *
    go_wp2_with fail
    refine (markText_at (kz + 1) ((kz : Int) + 1) (by omega) _ (by omega) (by omega)).mono ?_
    generalize w1.setCell ⟨b, off + j * 2, none⟩ (.string m0) = w2 at *
    rintro e w3 ⟨rfl, hb1⟩
    have HX3 := hid (HX2.out.below hb1)
    have HG3 := hid (HG2.out.trans (mk_below hb1))
    clear hb1 HX2 HG2 c0 f0
    obtain ⟨⟨u1, c1, s1⟩, f1⟩ := HX3.out.cell (j := j * 2 + 1) (by omega)
    obtain ⟨u1, rfl⟩ := s1
    have HX4 : Hid (Mi (w3.setCell ⟨b, off + j * 2 + 1, none⟩ (.string (mt (kz + 1)))) b off (n * 2) (j * 2 + 2) (mV k) isStr) := by
     rw [← HK.out, show k + j * 2 + 1 = k + (j * 2 + 1) by omega]; exact HX3.out.set (by omega) (by omega) ⟨_, rfl⟩
    have HG4 : Hid (Mk S w (w3.setCell ⟨b, off + j * 2 + 1, none⟩ (.string (mt (kz + 1))))) := by
     rw [← HK.out, show k + j * 2 + 1 = k + (j * 2 + 1) by omega]; exact HG3.out.trans (mi_mk HX3.out HS.out (by omega) (by omega) (sim_mV k (j * 2 + 1)))
    clear HX3 HG3
    rw [← Nat.add_assoc] at c1 f1
    generalize mt (kz + 1) = m1 at *
    go_wp2
    go_roundw
    case rel => exact ⟨j + 1, by rw [show k + (j + 1) * 2 = kz + 2 by have := HK.out; omega]; go_num, by go_num, by omega, by rw [show (j + 1) * 2 = j * 2 + 2 by omega]; exact HX4.out, HG4.out⟩
    case measure => simp [intOf]; omega
   ·have hlt' : ¬ (j : Int) < (n : Int) := by omega
    have hjn : j = n := by omega
    subst hjn
    generalize hkz : k + j * 2 = kz
    go_wp2
    go_ret
    exact ⟨rfl, HG.out, fun _ => ⟨b, off, rfl, HS.out, HX.out⟩⟩
set_option maxHeartbeats 4000000 in
theorem markStringS_any (S : Nat → Prop) (a : Option Addr) (n c k : Nat) (w : World) (h : Kw w S (.slice a n c) n n isStr) (hn : n ≤ 1048576) (hk0 : 0 < k) (hk : k ≤ 576460752303423488) :
  Calls Tryz.prog 123 #[.slice a n c, .int .i64 k] w fun e w' => e = .returned (.int .i64 ((k + n : Nat) : Int)) ∧ Marked S w a n n (mV k) isStr w' := by
 obtain ⟨a', c', h1, h2, h3, h4⟩ := h
 cases h1
 rcases Nat.eq_zero_or_pos n with hz | hp
 ·clear h4
  subst hz
  go_enter Tryz.func123, Tryz.ntmps123
  go_wp2_with fail
  go_loop [1, 5] (fun x i => x = .int .i64 k ∧ i = .int .i64 (0 : Nat)) (fun _ _ => 0)
  case atStart => exact ⟨rfl, rfl⟩
  case round =>
   obtain ⟨rfl, rfl⟩ := hrel
   go_wp2
   go_ret
   exact ⟨rfl, Mk.refl _ _, fun h => absurd h (Nat.lt_irrefl _)⟩
 ·obtain ⟨b, off, rfl, hS, hu, hc⟩ := h4 hp
  have HI : Hid (Mi w b off n 0 (mV k) isStr) := Mi.start hu hc
  have HS := hid hS
  clear h4 hc hu hS
  go_enter Tryz.func123, Tryz.ntmps123
  go_wp2_with fail
  go_loopw [1, 5] (fun x i wr => ∃ j : Nat, x = .int .i64 ((k + j : Nat) : Int) ∧ i = .int .i64 j ∧ j ≤ n ∧ Hid (Mi wr b off n j (mV k) isStr) ∧ Hid (Mk S w wr)) (fun _ i _ => n - (intOf i).toNat)
  case atStart => exact ⟨0, rfl, rfl, Nat.zero_le _, HI.out, Mk.refl _ _⟩
  case round =>
   obtain ⟨j, rfl, rfl, hj, HX, HG⟩ := hrel
   by_cases hlt : j < n
   ·have hlt' : (j : Int) < (n : Int) := by omega
    have hj0 : (0 : Int) ≤ (j : Int) := by omega
    generalize hkz : k + j = kz
    have hkz0 : 0 < kz := by omega
    have hkz1 : kz ≤ 576460754400575488 := by omega
    have HK := hid hkz
    clear hkz
    go_wp2_with fail
    refine (markText_at kz (kz : Int) rfl wr hkz0 (by omega)).mono ?_
    rintro e w1 ⟨rfl, hb1⟩
    have HX1 := hid (HX.out.below hb1)
    have HG1 := hid (HG.out.trans (mk_below hb1))
    clear hb1 HX HG
    obtain ⟨⟨u0, c0, s0⟩, f0⟩ := HX1.out.cell hlt
    obtain ⟨u0, rfl⟩ := s0
    have HX2 : Hid (Mi (w1.setCell ⟨b, off + j, none⟩ (.string (mt kz))) b off n (j + 1) (mV k) isStr) := by rw [← HK.out]; exact HX1.out.set rfl hlt ⟨_, rfl⟩
    have HG2 : Hid (Mk S w (w1.setCell ⟨b, off + j, none⟩ (.string (mt kz)))) := by rw [← HK.out]; exact HG1.out.trans (mi_mk HX1.out HS.out rfl hlt (sim_mV k j))
    clear HX1 HG1
    generalize mt kz = m0 at *
    go_wp2
    go_roundw
    case rel => exact ⟨j + 1, by rw [show k + (j + 1) = kz + 1 by have := HK.out; omega]; go_num, by go_num, by omega, HX2.out, HG2.out⟩
    case measure => simp [intOf]; omega
   ·have hlt' : ¬ (j : Int) < (n : Int) := by omega
    have hjn : j = n := by omega
    subst hjn
    generalize hkz : k + j = kz
    go_wp2
    go_ret
    exact ⟨rfl, HG.out, fun _ => ⟨b, off, rfl, HS.out, HX.out⟩⟩
set_option maxHeartbeats 4000000 in
theorem markIntS_any (S : Nat → Prop) (a : Option Addr) (n c k : Nat) (w : World) (h : Kw w S (.slice a n c) n n isInt) (hn : n ≤ 1048576) (hk0 : 0 < k) (hk : k ≤ 576460752303423488) :
  Calls Tryz.prog 39 #[.slice a n c, .int .i64 k] w fun e w' => e = .returned (.int .i64 ((k + n : Nat) : Int)) ∧ Marked S w a n n (mI k) isInt w' := by
 obtain ⟨a', c', h1, h2, h3, h4⟩ := h
 cases h1
 rcases Nat.eq_zero_or_pos n with hz | hp
 ·clear h4
  subst hz
  go_enter Tryz.func39, Tryz.ntmps39
  go_wp2_with fail
  go_loop [1, 5] (fun x i => x = .int .i64 k ∧ i = .int .i64 (0 : Nat)) (fun _ _ => 0)
  case atStart => exact ⟨rfl, rfl⟩
  case round =>
   obtain ⟨rfl, rfl⟩ := hrel
   go_wp2
   go_ret
   exact ⟨rfl, Mk.refl _ _, fun h => absurd h (Nat.lt_irrefl _)⟩
 ·obtain ⟨b, off, rfl, hS, hu, hc⟩ := h4 hp
  have HI : Hid (Mi w b off n 0 (mI k) isInt) := Mi.start hu hc
  have HS := hid hS
  clear h4 hc hu hS
  go_enter Tryz.func39, Tryz.ntmps39
  go_wp2_with fail
  go_loopw [1, 5] (fun x i wr => ∃ j : Nat, x = .int .i64 ((k + j : Nat) : Int) ∧ i = .int .i64 j ∧ j ≤ n ∧ Hid (Mi wr b off n j (mI k) isInt) ∧ Hid (Mk S w wr)) (fun _ i _ => n - (intOf i).toNat)
  case atStart => exact ⟨0, rfl, rfl, Nat.zero_le _, HI.out, Mk.refl _ _⟩
  case round =>
   obtain ⟨j, rfl, rfl, hj, HX, HG⟩ := hrel
   by_cases hlt : j < n
   ·have hlt' : (j : Int) < (n : Int) := by omega
    have hj0 : (0 : Int) ≤ (j : Int) := by omega
    generalize hkz : k + j = kz
    have hkz0 : 0 < kz := by omega
    have hkz1 : kz ≤ 576460754400575488 := by omega
    have HK := hid hkz
    clear hkz
    obtain ⟨⟨u0, c0, s0⟩, f0⟩ := HX.out.cell hlt
    obtain ⟨u0, rfl⟩ := s0
    have HX2 : Hid (Mi (wr.setCell ⟨b, off + j, none⟩ (.int .i64 kz)) b off n (j + 1) (mI k) isInt) := by rw [← HK.out]; exact HX.out.set rfl hlt ⟨_, rfl⟩
    have HG2 : Hid (Mk S w (wr.setCell ⟨b, off + j, none⟩ (.int .i64 kz))) := by rw [← HK.out]; exact HG.out.trans (mi_mk HX.out HS.out rfl hlt (sim_mI k j))
    clear HX HG
    go_wp2
    go_roundw
    case rel => exact ⟨j + 1, by rw [show k + (j + 1) = kz + 1 by have := HK.out; omega]; go_num, by go_num, by omega, HX2.out, HG2.out⟩
    case measure => simp [intOf]; omega
   ·have hlt' : ¬ (j : Int) < (n : Int) := by omega
    have hjn : j = n := by omega
    subst hjn
    generalize hkz : k + j = kz
    go_wp2
    go_ret
    exact ⟨rfl, HG.out, fun _ => ⟨b, off, rfl, HS.out, HX.out⟩⟩
open Go.RowKit
theorem kc1 {u v : World} {a0 : Addr} {x0 : Value} (h : KC u v [(a0, x0)]) : v.cell? a0 = some x0 ∧ KC u v [(a0, x0)] := ⟨h.at (by simp), h⟩
theorem kc0_1 {u : World} {a0 : Addr} {x0 : Value} (h0 : u.cell? a0 = some x0) : KC u u [(a0, x0)] := ⟨fun p hp => by simp at hp; rcases hp with rfl; assumption, Below.refl _ _⟩
theorem kc1c {u v v' : World} {a0 : Addr} {x0 : Value} (k : Below v.heap.size v v') (h : v.cell? a0 = some x0 ∧ KC u v [(a0, x0)]) : v'.cell? a0 = some x0 ∧ KC u v' [(a0, x0)] := kc1 (KC.call h.2 k)
def Lies (w : World) (a : Option Addr) (n m : Nat) (V : Nat → Value) : Prop := 0 < n → ∃ b off, a = some ⟨b, off, none⟩ ∧ b < w.heap.size ∧ ∀ j, j < m → w.cell? ⟨b, off + j, none⟩ = some (V j)
theorem Lies.below {w w' : World} {a : Option Addr} {n m : Nat} {V : Nat → Value} (h : Lies w a n m V) (hb : Below w.heap.size w w') : Lies w' a n m V := by
 intro hn
 obtain ⟨b, off, h1, h2, h3⟩ := h hn
 exact ⟨b, off, h1, Nat.lt_of_lt_of_le h2 hb.size, fun j hj => by rw [hb.cell (p := ⟨b, off + j, none⟩) h2]; exact h3 j hj⟩
theorem Marked.lies {S : Nat → Prop} {w w' : World} {a : Option Addr} {n m : Nat} {V : Nat → Value} {K : Value → Prop} (h : Marked S w a n m V K w') : Lies w' a n m V := by
 intro hn
 obtain ⟨b, off, h1, _, T, xs, h2, _, h3⟩ := h.2 hn
 exact ⟨b, off, h1, h2.lt, fun j hj => h2.cell (h3 j hj)⟩
set_option maxHeartbeats 4000000 in
theorem heldPairS_any (a : Option Addr) (n c k : Nat) (w : World) (h : Lies w a n (n * 2) (mV k)) (hc : n ≤ c) (hn : n ≤ 1048576) (hk0 : 0 < k) (hk : k ≤ 576460752303423488) :
  Calls Tryz.prog 125 #[.slice a n c, .int .i64 k] w fun e w' => e = .returned (.int .i64 ((k + n * 2 : Nat) : Int)) ∧ Below w.heap.size w w' := by
 have H0 := hid h
 clear h
 go_enter Tryz.func125, Tryz.ntmps125
 go_wp2_with fail
 go_loopw [1, 5] (fun x i wr => ∃ j : Nat, x = .int .i64 ((k + j * 2 : Nat) : Int) ∧ i = .int .i64 j ∧ j ≤ n ∧ Hid (Below w.heap.size w wr)) (fun _ i _ => n - (intOf i).toNat)
 case atStart => exact ⟨0, rfl, rfl, Nat.zero_le _, Below.refl _ _⟩
 case round =>
  obtain ⟨j, rfl, rfl, hj, HB⟩ := hrel
  by_cases hlt : j < n
  ·have hlt' : (j : Int) < (n : Int) := by omega
   have hj0 : (0 : Int) ≤ (j : Int) := by omega
   obtain ⟨b, off, ha, hbl, hcell⟩ := (H0.out.below HB.out) (by omega)
   subst ha
   have c0 := hcell (j * 2) (by omega)
   have c1 := hcell (j * 2 + 1) (by omega)
   simp only [mV] at c0 c1
   rw [← Nat.add_assoc] at c1
   rw [← Nat.add_assoc] at c1
   have HT1 := hid (fun w => markText_at (k + j * 2) ((k + j * 2 : Nat) : Int) rfl w (by omega) (by omega))
   have HT2 := hid (fun w => markText_at (k + j * 2 + 1) (((k + j * 2 : Nat) : Int) + 1) (by omega) w (by omega) (by omega))
   clear hcell
   generalize mt (k + j * 2) = m1 at *
   generalize mt (k + j * 2 + 1) = m2 at *
   generalize hkz : k + j * 2 = kz at *
   have hkz1 : kz ≤ 576460754400575488 := by omega
   have HK := hid hkz
   have T1 := hid (kc0_1 c0)
   have C1' := hid c1
   clear hkz c1
   go_wp2_with fail
   go_region_held3 (fun v => v.cell? ⟨b, off + j * 2, none⟩ = some (.string m1) ∧ KC wr v [(⟨b, off + j * 2, none⟩, .string m1)])
    (first | assumption | exact kc1 (T1.out.call (below_drew _)) | exact kc1c hbC (by assumption))
    (first | (go_at_call 156; refine (HT1.out _).mono ?_; rintro e w1 ⟨rfl, hbC⟩))
   rename_i hS
   have B1 := hid hS.2.bel
   have d2 : w1.cell? ⟨b, off + j * 2 + 1, none⟩ = some (.string m2) := by rw [B1.out.cell (p := ⟨b, off + j * 2 + 1, none⟩) hbl]; exact C1'.out
   have T2 := hid (kc0_1 d2)
   clear hS c0 T1 HT1 hbC
   go_wp2_with fail
   go_region_held3 (fun v => v.cell? ⟨b, off + j * 2 + 1, none⟩ = some (.string m2) ∧ KC w1 v [(⟨b, off + j * 2 + 1, none⟩, .string m2)])
    (first | assumption | exact kc1 (T2.out.call (below_drew _)) | exact kc1c hbC (by assumption))
    (first | (go_at_call 156; refine (HT2.out _).mono ?_; rintro e w2 ⟨rfl, hbC⟩))
   rename_i hS
   have B2 := hid (Below.then' (Below.then' HB.out B1.out (Nat.le_refl _)) hS.2.bel (Nat.le_refl _))
   clear hS T2 HT2 d2
   go_wp2
   go_roundw
   case rel => exact ⟨j + 1, by rw [show k + (j + 1) * 2 = kz + 2 by have := HK.out; omega]; go_num, by go_num, by omega, B2.out⟩
   case measure => simp [intOf]; omega
  ·have hlt' : ¬ (j : Int) < (n : Int) := by omega
   have hjn : j = n := by omega
   subst hjn
   have HK : Hid ((k : Int) + (j : Int) * 2 = ((k + j * 2 : Nat) : Int)) := by show _ = _; omega
   generalize k + j * 2 = kz at *
   go_wp2
   go_ret
   exact ⟨by rw [HK.out]; rfl, HB.out⟩
open Go.RowKit
set_option linter.unusedVariables false
set_option maxHeartbeats 2000000 in
theorem heldStringS_any (a : Option Addr) (n c k : Nat) (w : World) (h : Lies w a n n (mV k)) (hc : n ≤ c) (hn : n ≤ 1048576) (hk0 : 0 < k) (hk : k ≤ 576460752303423488) :
  Calls Tryz.prog 126 #[.slice a n c, .int .i64 k] w fun e w' => e = .returned (.int .i64 ((k + n : Nat) : Int)) ∧ Below w.heap.size w w' := by
 have H0 := hid h
 clear h
 go_enter Tryz.func126, Tryz.ntmps126
 go_wp2_with fail
 go_loopw [1, 5] (fun x i wr => ∃ j : Nat, x = .int .i64 ((k + j : Nat) : Int) ∧ i = .int .i64 j ∧ j ≤ n ∧ Hid (Below w.heap.size w wr)) (fun _ i _ => n - (intOf i).toNat)
 case atStart => exact ⟨0, rfl, rfl, Nat.zero_le _, Below.refl _ _⟩
 case round =>
  obtain ⟨j, rfl, rfl, hj, HB⟩ := hrel
  by_cases hlt : j < n
  ·have hlt' : (j : Int) < (n : Int) := by omega
   have hj0 : (0 : Int) ≤ (j : Int) := by omega
   obtain ⟨b, off, ha, hbl, hcell⟩ := (H0.out.below HB.out) (by omega)
   subst ha
   have c0 := hcell j (by omega)
   simp only [mV] at c0
   have HT1 := hid (fun w => markText_at (k + j) ((k + j : Nat) : Int) rfl w (by omega) (by omega))
   clear hcell
   generalize mt (k + j) = m1 at *
   generalize hkz : k + j = kz at *
   have hkz1 : kz ≤ 576460754400575488 := by omega
   have HK := hid hkz
   have T1 := hid (kc0_1 c0)
   clear hkz
   go_wp2_with fail
   go_region_held3 (fun v => v.cell? ⟨b, off + j, none⟩ = some (.string m1) ∧ KC wr v [(⟨b, off + j, none⟩, .string m1)])
    (first | assumption | exact kc1 (T1.out.call (below_drew _)) | exact kc1c hbC (by assumption))
    (first | (go_at_call 156; refine (HT1.out _).mono ?_; rintro e w1 ⟨rfl, hbC⟩))
   rename_i hS
   have B1 := hid (Below.then' HB.out hS.2.bel (Nat.le_refl _))
   clear hS c0 T1 HT1 hbC
   go_wp2
   go_roundw
   case rel => exact ⟨j + 1, by rw [show k + (j + 1) = kz + 1 by have := HK.out; omega]; go_num, by go_num, by omega, B1.out⟩
   case measure => simp [intOf]; omega
  ·have hlt' : ¬ (j : Int) < (n : Int) := by omega
   have hjn : j = n := by omega
   subst hjn
   have HK : Hid ((k : Int) + (j : Int) = ((k + j : Nat) : Int)) := by show _ = _; omega
   generalize k + j = kz at *
   go_wp2
   go_ret
   exact ⟨by rw [HK.out]; rfl, HB.out⟩
set_option maxHeartbeats 2000000 in
theorem heldIntS_any (a : Option Addr) (n c k : Nat) (w : World) (h : Lies w a n n (mI k)) (hc : n ≤ c) (hn : n ≤ 1048576) (hk0 : 0 < k) (hk : k ≤ 576460752303423488) :
  Calls Tryz.prog 42 #[.slice a n c, .int .i64 k] w fun e w' => e = .returned (.int .i64 ((k + n : Nat) : Int)) ∧ w' = w := by
 have H0 := hid h
 clear h
 go_enter Tryz.func42, Tryz.ntmps42
 go_wp2_with fail
 go_loop [1, 5] (fun x i => ∃ j : Nat, x = .int .i64 ((k + j : Nat) : Int) ∧ i = .int .i64 j ∧ j ≤ n) (fun _ i => n - (intOf i).toNat)
 case atStart => exact ⟨0, rfl, rfl, Nat.zero_le _⟩
 case round =>
  obtain ⟨j, rfl, rfl, hj⟩ := hrel
  by_cases hlt : j < n
  ·have hlt' : (j : Int) < (n : Int) := by omega
   have hj0 : (0 : Int) ≤ (j : Int) := by omega
   obtain ⟨b, off, ha, hbl, hcell⟩ := H0.out (by omega)
   subst ha
   have c0 := hcell j (by omega)
   simp only [mI] at c0
   clear hcell
   generalize hkz : k + j = kz at *
   have hkz1 : kz ≤ 576460754400575488 := by omega
   have HK := hid hkz
   clear hkz
   go_wp2
   go_round
   case rel => exact ⟨j + 1, by rw [show k + (j + 1) = kz + 1 by have := HK.out; omega]; go_num, by go_num, by omega⟩
   case measure => simp [intOf]; omega
  ·have hlt' : ¬ (j : Int) < (n : Int) := by omega
   have hjn : j = n := by omega
   subst hjn
   have HK : Hid ((k : Int) + (j : Int) = ((k + j : Nat) : Int)) := by show _ = _; omega
   generalize k + j = kz at *
   go_wp2
   go_ret
   exact ⟨by rw [HK.out]; rfl, rfl⟩
open Go.RowKit
structure PO (w : World) (kv vv iv : Value) (p : PG) : Prop where
 hk : w.ownsRow 0 9 1 kv p.keys.length (p.keys.map Value.string)
 hv : w.ownsRow 0 9 1 vv p.vals.length (p.vals.map Value.string)
 hi : w.ownsRow 0 3 1 iv p.kids.length (p.kids.map (Value.int .i64))
 ap : ∀ y, (kv.ownBlock = some y → vv.ownBlock ≠ some y ∧ iv.ownBlock ≠ some y) ∧ (vv.ownBlock = some y → iv.ownBlock ≠ some y)
def pbl (kv vv iv : Value) (y : Nat) : Prop := kv.ownBlock = some y ∨ vv.ownBlock = some y ∨ iv.ownBlock = some y
theorem PO.to {w w' : World} {R : Nat → Prop} {kv vv iv : Value} {p : PG} (h : PO w kv vv iv p) (ho : Only R w w') (hR : ∀ y, pbl kv vv iv y → ¬ R y) : PO w' kv vv iv p :=
 ⟨own_kept h.hk ho (fun k e => hR k (.inl e)), own_kept h.hv ho (fun k e => hR k (.inr (.inl e))), own_kept h.hi ho (fun k e => hR k (.inr (.inr e))), h.ap⟩
theorem PO.below {w w' : World} {kv vv iv : Value} {p : PG} (h : PO w kv vv iv p) (hb : Below w.heap.size w w') : PO w' kv vv iv p := h.to (only_of_below hb (fun _ => False)) (fun _ _ h => h)
theorem PO.pgr {w : World} {ka va ia : Option Addr} {kn kc vn vc jn ic : Nat} {p : PG} (h : PO w (.slice ka kn kc) (.slice va vn vc) (.slice ia jn ic) p) {S : Nat → Prop} (hS : ∀ y, pbl (.slice ka kn kc) (.slice va vn vc) (.slice ia jn ic) y → S y) : Pgr w S ka kn kc va vn vc ia jn ic p :=
 ⟨rw_own h.hk (fun k e _ _ => hS k (.inl e)), rw_own h.hv (fun k e _ _ => hS k (.inr (.inl e))), rw_own h.hi (fun k e _ _ => hS k (.inr (.inr e)))⟩
structure PLie (w : World) (ka : Option Addr) (kn kc : Nat) (va : Option Addr) (vn vc : Nat) (ia : Option Addr) (jn ic : Nat) (k : Nat) : Prop where
 hk : Lies w ka kn kn (mV k)
 hv : Lies w va vn vn (mV (k + kn))
 hi : Lies w ia jn jn (mI (k + kn + vn))
 cap : kn ≤ kc ∧ vn ≤ vc ∧ jn ≤ ic
open Go.RowKit
theorem ow_new (w : World) (B : Nat) (hB : B ≤ w.heap.size) : Ow (w.alloc (.cells #[] 112)) B (.slice (some ⟨w.heap.size, 0, none⟩) 0 0) [] :=
 ⟨rfl, .inr ⟨w.heap.size, 0, #[], rfl, hB, heap_alloc_new w _, Nat.le_refl _, by decide, rfl, rfl⟩⟩
theorem own_mono {w : World} {base base' : Nat} {e : TypeId} {size : Nat} {v : Value} {n : Nat} {xs : List Value} (h : w.ownsRow base e size v n xs) (hb : base' ≤ base) : w.ownsRow base' e size v n xs := by
 refine ⟨h.1, ?_⟩
 rcases h.2 with h2 | ⟨g, cap, cur, h3, h4, h5⟩
 ·exact .inl h2
 ·exact .inr ⟨g, cap, cur, h3, Nat.le_trans hb h4, h5⟩
set_option maxRecDepth 100000 in
set_option maxHeartbeats 2000000 in
theorem cloneP_any (S : Nat → Prop) (v : Value) (l : List PB) (w : World) (h : Pr w S v l) (hl : l.length ≤ 1048576) :
  Calls Tryz.prog 183 #[v] w fun e w' => ∃ v', e = .returned v' ∧ Ow w' w.heap.size v' l ∧ Below w.heap.size w w' := by
 have H0 := hid h
 obtain ⟨a, c, hv, hn, hc⟩ := h.shape
 subst hv
 cases a with
 | none =>
  have hl0 : l.length = 0 := by
   rcases Nat.eq_zero_or_pos l.length with e | e
   ·exact e
   ·obtain ⟨b, off, e1, _⟩ := h.at e
    cases e1
  obtain rfl := List.eq_nil_of_length_eq_zero hl0
  clear h hl0
  have he : ∀ w : World, (binOp .eql 82 (.slice none 0 c) (.slice none 0 0)).run Tryz.prog w = .ok (.bool true) w := fun _ => rfl
  go_enter Tryz.func183, Tryz.ntmps183
  go_wp2
  go_ret
  exact ⟨_, rfl, ow_nil _ _, Below.refl _ _⟩
 | some x =>
  clear h
  generalize hnn : l.length = n at *
  have HN := hid hnn
  clear hnn
  have he : ∀ w : World, (binOp .eql 82 (.slice (some x) n c) (.slice none 0 0)).run Tryz.prog w = .ok (.bool false) w := fun _ => rfl
  have HO := hid (ow_new w w.heap.size (Nat.le_refl _))
  have HB := hid (below_new (o := .cells #[] 112) (w := w) (Below.refl _ _))
  go_enter Tryz.func183, Tryz.ntmps183
  go_wp2_with (at_builtin; refine wpList_append_pairs rfl _ _ rfl w.heap.size _ [] rfl HO.out S _ l rfl (H0.out.below HB.out) ?b1 ?b2 ?_)
  case b1 => have := HN.out; simp; omega
  case b2 => simp
  intro v1 w1 hO1 hg1
  have HB1 := hid (HB.out.trans (grown_belowB HO.out hg1 (by simp)))
  have HO1 : Hid (Ow w1 w.heap.size v1 l) := hO1
  obtain ⟨a1, n1, cc1, hv1, HN1⟩ := hO1.shape'
  clear hO1 hg1
  subst hv1
  go_wp2
  go_ret
  exact ⟨_, rfl, HO1.out, HB1.out⟩
theorem limb_leaf {w : World} {b : Nat} {pv : Value} {ps : List PB} {lo : Nat} (hB : Bk w b 195 [pv, .slice none 0 0]) (hb : lo ≤ b) (hP : Ow w lo pv ps) (hne : pv.ownBlock ≠ some b) (S : Nat → Prop) (hS : ∀ x, lo ≤ x → x < w.heap.size → S x) : Limb w S b (.mk ps []) := by
 refine .mk S b pv _ ps [] (fun _ => 0) (fun _ _ => False) (hS b hb hB.lt) hB (own_mono hP (Nat.zero_le _)) (World.ownsRow_nil w 0 _ _) (fun x hx => ⟨?_, ?_⟩) (fun x hx => by cases hx) (fun i hi => by simp at hi) (fun i j hi => by simp at hi) (fun i hi => by simp at hi)
 ·have := World.ownsRow.lt hP x hx
  exact hS x this.1 this.2
 ·rintro rfl
  exact hne hx
def LimbOr (o : Option T) (w : World) (e : Ending) (w' : World) : Prop := match o with
 | none => e = .returned (.pointer none)
 | some t => ∃ b, e = .returned (.pointer (some ⟨b, 0, none⟩)) ∧ Limb w' (fun y => w.heap.size ≤ y ∧ y < w'.heap.size) b t
def leafT (x : NB) (root : Bool) : Option T := if leafOk x root = true then some (.mk x.ps []) else none
set_option maxHeartbeats 4000000 in
theorem readLeaf_any (S : Nat → Prop) (ap ax ai : Option Addr) (np cp nx cx ni ci : Nat) (x : NB) (root : Bool) (w : World) (hP : Pr w S (.slice ap np cp) x.ps) (hS : Sr w S (.slice ax nx cx) x.keys) :
  Calls Tryz.prog 170 #[.agg #[.slice ap np cp, .slice ax nx cx, .slice ai ni ci], .bool root] w fun e w' =>
   LimbOr (leafT x root) w e w' ∧ Below w.heap.size w w' := by
 have HP := hid hP
 have HNP := hid (Rw.len hP).1
 have HNX := hid (Rw.len hS).1
 have h1 := (Rw.len hP).2.1
 have h2 := (Rw.len hP).2.2
 have h3 := (Rw.len hS).2.1
 have h4 := (Rw.len hS).2.2
 clear hP hS
 have HB0 := hid (below_new (o := .cells #[.slice ap np cp, .slice ax nx cx, .slice ai ni ci] 85) (w := w) (Below.refl _ _))
 have KP := hid (Bk.new w 85 [.slice ap np cp, .slice ax nx cx, .slice ai ni ci])
 have LF : ∀ (np nx : Nat) (r : Bool), np = x.ps.length → nx = x.keys.length → leafOk x r = !(decide (np = 0) || decide (4 < np) || (decide (np < 2) && !r) || !decide (nx = 0)) := by
  rintro _ _ r rfl rfl; rfl
 have LF := hid (LF np nx root HNP.out HNX.out)
 by_cases a1 : np = 0
 ·have HF : Hid (leafOk x root = false) := by show _ = _; rw [LF.out]; simp [a1]
  clear HP HNP LF
  subst a1
  go_enter Tryz.func170, Tryz.ntmps170
  go_wp2
  go_ret
  exact ⟨by rw [leafT, if_neg (by rw [HF.out]; decide)]; rfl, HB0.out⟩
 ·have e0 : ((np : Int) == 0) = false := by simp; omega
  by_cases a2 : 4 < np
  ·have e1 : (4 : Int) < (np : Int) := by omega
   have e2 : ¬ (np : Int) < 2 := by omega
   have HF : Hid (leafOk x root = false) := by show _ = _; rw [LF.out]; simp [a2]
   clear LF
   go_enter Tryz.func170, Tryz.ntmps170
   go_wp2
   go_ret
   exact ⟨by rw [leafT, if_neg (by rw [HF.out]; decide)]; rfl, HB0.out⟩
  ·have e1 : ¬ (4 : Int) < (np : Int) := by omega
   by_cases a3 : np < 2
   ·have e2 : (np : Int) < 2 := by omega
    cases root
    ·have HF : Hid (leafOk x false = false) := by show _ = _; rw [LF.out]; simp [a3]
     clear LF
     go_enter Tryz.func170, Tryz.ntmps170
     go_wp2
     go_ret
     exact ⟨by rw [leafT, if_neg (by rw [HF.out]; decide)]; rfl, HB0.out⟩
    ·by_cases a4 : nx = 0
     ·have HF : Hid (leafOk x true = true) := by show _ = _; rw [LF.out]; simp [a1, a2, a4]
      have e4 : ((nx : Int) != 0) = false := by simp; omega
      clear LF a4
      have c0 := KP.out.cell (j := 0) rfl
      go_enter Tryz.func170, Tryz.ntmps170
      go_wp2_with fail
      refine (cloneP_any S (.slice ap np cp) x.ps _ (HP.out.below HB0.out) (by rw [← HNP.out]; omega)).mono ?_
      rintro e w1 ⟨v1, rfl, hO1, hb1⟩
      obtain ⟨a1, n1, cc1, hv1, HN1⟩ := hO1.shape'
      subst hv1
      have HO1 := hid hO1
      have HB1 := hid (HB0.out.trans (hb1.mono HB0.out.size))
      have HSZ : Hid (w.heap.size < w1.heap.size) := by have := hb1.size; simp at this; exact this
      clear hO1 hb1 c0
      go_wp2
      go_ret
      refine ⟨?_, HB1.out.alloc HB1.out.size _⟩
      rw [leafT, if_pos HF.out]
      refine ⟨_, rfl, ?_⟩
      refine limb_leaf (lo := w.heap.size) (Bk.new w1 195 [.slice a1 n1 cc1, .slice none 0 0]) (Nat.le_of_lt HSZ.out) (own_mono (HO1.out.kept (below_new (Below.refl _ _))) (by simp)) ?_ _ (fun y h1 h2 => ⟨h1, h2⟩)
      intro e
      have := (World.ownsRow.lt HO1.out _ e).2
      omega
     ·have HF : Hid (leafOk x true = false) := by show _ = _; rw [LF.out]; simp [a4]
      have e4 : ((nx : Int) != 0) = true := by simp; omega
      clear LF a4
      go_enter Tryz.func170, Tryz.ntmps170
      go_wp2
      go_ret
      exact ⟨by rw [leafT, if_neg (by rw [HF.out]; decide)]; rfl, HB0.out⟩
   ·have e2 : ¬ (np : Int) < 2 := by omega
    by_cases a4 : nx = 0
    ·have HF : Hid (leafOk x root = true) := by show _ = _; rw [LF.out]; simp [a1, a2, a3, a4]
     have e4 : ((nx : Int) != 0) = false := by simp; omega
     clear LF a4
     have c0 := KP.out.cell (j := 0) rfl
     go_enter Tryz.func170, Tryz.ntmps170
     go_wp2_with fail
     refine (cloneP_any S (.slice ap np cp) x.ps _ (HP.out.below HB0.out) (by rw [← HNP.out]; omega)).mono ?_
     rintro e w1 ⟨v1, rfl, hO1, hb1⟩
     obtain ⟨a1, n1, cc1, hv1, HN1⟩ := hO1.shape'
     subst hv1
     have HO1 := hid hO1
     have HB1 := hid (HB0.out.trans (hb1.mono HB0.out.size))
     have HSZ : Hid (w.heap.size < w1.heap.size) := by have := hb1.size; simp at this; exact this
     clear hO1 hb1 c0
     go_wp2
     go_ret
     refine ⟨?_, HB1.out.alloc HB1.out.size _⟩
     rw [leafT, if_pos HF.out]
     refine ⟨_, rfl, ?_⟩
     refine limb_leaf (lo := w.heap.size) (Bk.new w1 195 [.slice a1 n1 cc1, .slice none 0 0]) (Nat.le_of_lt HSZ.out) (own_mono (HO1.out.kept (below_new (Below.refl _ _))) (by simp)) ?_ _ (fun y h1 h2 => ⟨h1, h2⟩)
     intro e
     have := (World.ownsRow.lt HO1.out _ e).2
     omega
    ·have HF : Hid (leafOk x root = false) := by show _ = _; rw [LF.out]; simp [a4]
     have e4 : ((nx : Int) != 0) = true := by simp; omega
     clear LF a4
     go_enter Tryz.func170, Tryz.ntmps170
     go_wp2
     go_ret
     exact ⟨by rw [leafT, if_neg (by rw [HF.out]; decide)]; rfl, HB0.out⟩
open Go.RowKit
def mkV (L : Nat → Bool) (P K : Nat → Value) (n : Nat) : List V3 := (List.range n).map fun i => (.bool (L i), P i, K i)
theorem mkV_length (L : Nat → Bool) (P K : Nat → Value) (n : Nat) : (mkV L P K n).length = n := by simp [mkV]
theorem mkV_at (L : Nat → Bool) (P K : Nat → Value) (n i : Nat) (h : i < n) : vAt (mkV L P K n) i = (.bool (L i), P i, K i) := by simp [mkV, vAt, h]
inductive Sub (w : World) (S : Nat → Prop) : Bool → Value → Value → T → Prop
 | mk (lf : Bool) (pv kv : Value) (ps : List PB) (ks : List T) (L : Nat → Bool) (P K : Nat → Value) (hlf : lf = decide (ks.length = 0)) (hP : Pr w S pv ps)
   (hK : Rw w S kv ks.length (ncs (mkV L P K ks.length))) (hk : ∀ i, i < ks.length → Sub w S (L i) (P i) (K i) (tAt ks i)) : Sub w S lf pv kv (.mk ps ks)
theorem Sub.to {w w' : World} {S R : Nat → Prop} (ho : Only R w w') (hR : ∀ x, S x → x < w.heap.size → ¬ R x) {lf : Bool} {pv kv : Value} {t : T} (h : Sub w S lf pv kv t) : Sub w' S lf pv kv t := by
 induction h with
 | mk lf pv kv ps ks L P K hlf hP hK hk ih => exact .mk lf pv kv ps ks L P K hlf (hP.to ho hR) (hK.to ho hR) ih
theorem Sub.mono {w : World} {S R : Nat → Prop} (hR : ∀ x, S x → x < w.heap.size → R x) {lf : Bool} {pv kv : Value} {t : T} (h : Sub w S lf pv kv t) : Sub w R lf pv kv t := by
 induction h with
 | mk lf pv kv ps ks L P K hlf hP hK hk ih => exact .mk lf pv kv ps ks L P K hlf (Rw.mono hP hR) (hK.mono hR) ih
theorem Sub.kept {w w' : World} {S : Nat → Prop} {lf : Bool} {pv kv : Value} {t : T} (h : Sub w S lf pv kv t) (hb : Below w.heap.size w w') : Sub w' S lf pv kv t := h.to (only_of_below hb (fun _ => False)) (fun _ _ _ h => h)
theorem Sub.shape {w : World} {S : Nat → Prop} {lf : Bool} {pv kv : Value} {t : T} (h : Sub w S lf pv kv t) : ∃ ap np cp ak nk ck, pv = .slice ap np cp ∧ kv = .slice ak nk ck ∧ Hid (np = t.ps.length) ∧ Hid (nk = t.ks.length) ∧ np ≤ 9223372036854775807 ∧ nk ≤ 9223372036854775807 ∧ lf = decide (nk = 0) ∧ Pr w S (.slice ap np cp) t.ps := by
 cases h with
 | mk lf pv kv ps ks L P K hlf hP hK hk =>
  obtain ⟨ap, cp, rfl, h1, h2⟩ := hP.shape
  obtain ⟨ak, ck, rfl, h3, h4⟩ := hK.shape
  exact ⟨ap, _, cp, ak, _, ck, rfl, rfl, rfl, rfl, by omega, by omega, hlf, hP⟩
theorem Sub.kids {w : World} {S : Nat → Prop} {lf : Bool} {pv : Value} {ak : Option Addr} {nk ck : Nat} {t : T} (h : Sub w S lf pv (.slice ak nk ck) t) (hp : 0 < nk) : ∃ g off, ak = some ⟨g, off, none⟩ ∧ S g ∧ g < w.heap.size ∧ ∀ i, i < nk → ∃ l ap np cp ak' nk' ck',
  w.cell? ⟨g, off + i * 3, none⟩ = some (.bool l) ∧ w.cell? ⟨g, off + i * 3 + 1, none⟩ = some (.slice ap np cp) ∧ w.cell? ⟨g, off + i * 3 + 2, none⟩ = some (.slice ak' nk' ck') ∧ Sub w S l (.slice ap np cp) (.slice ak' nk' ck') (tAt t.ks i) := by
 cases h with
 | mk lf pv kv ps ks L P K hlf hP hK hk =>
  have hn := (Rw.len hK).1
  obtain ⟨g, off, h1, h2, h3, h4⟩ := hK.at hp
  refine ⟨g, off, h1, h2, h3, fun i hi => ?_⟩
  have hik : i < ks.length := by omega
  obtain ⟨c0, c1, c2⟩ := ncs_at (mkV L P K ks.length) i (by rw [mkV_length]; exact hik)
  rw [mkV_at _ _ _ _ _ hik] at c0 c1 c2
  have d0 := h4 _ _ c0
  have d1 := h4 _ _ c1
  have d2 := h4 _ _ c2
  have hs := hk i hik
  obtain ⟨ap, np, cp, ak', nk', ck', e1, e2, _⟩ := hs.shape
  simp only at d1 d2
  rw [e1] at d1 hs
  rw [e2] at d2 hs
  exact ⟨L i, ap, np, cp, ak', nk', ck', d0, d1, d2, hs⟩
theorem infoSub : (Tryz.prog.info? 115).map (fun i => (i.zero, i.size, i.bytes)) = some (some (.agg #[.bool false, .slice none 0 0, .slice none 0 0]), 3, 56) := by kernel_rfl
set_option maxHeartbeats 2000000 in
theorem specLeast_any (t : T) : ∀ (S : Nat → Prop) (lf : Bool) (ap ak : Option Addr) (np cp nk ck : Nat) (w : World), Sub w S lf (.slice ap np cp) (.slice ak nk ck) t →
  Calls Tryz.prog 110 #[.agg #[.bool lf, .slice ap np cp, .slice ak nk ck]] w fun e w' => e = .returned (.string t.least) ∧ Below w.heap.size w w' := by
 induction t using T.ind
 rename_i ps ks ih
 intro S lf ap ak np cp nk ck w h
 obtain ⟨ap', np', cp', ak', nk', ck', e1, e2, HNP, HNK, b1, b2, hlf, hP⟩ := h.shape
 cases e1
 cases e2
 have H0 := hid h
 have HP := hid hP
 have HIH := hid ih
 clear h ih hP
 have HB0 := hid (below_new (o := .cells #[.bool lf, .slice ap np cp, .slice ak nk ck] 115) (w := w) (Below.refl _ _))
 by_cases hk : nk = 0
 ·have hlf' : lf = true := by rw [hlf, hk]; rfl
  have hks : ks = [] := List.eq_nil_of_length_eq_zero (by have := HNK.out; simp only [T.ks] at this; omega)
  clear H0 hlf
  subst hlf' hks hk
  by_cases hp : np = 0
  ·have HE : Hid ((T.mk ps []).least = ⟨#[]⟩) := by
    have : ps = [] := List.eq_nil_of_length_eq_zero (by have := HNP.out; simp only [T.ps] at this; omega)
    subst this; rfl
   clear HP
   subst hp
   go_enter Tryz.func110, Tryz.ntmps110
   go_wp2
   go_ret
   exact ⟨by rw [HE.out]; rfl, HB0.out⟩
  ·obtain ⟨b, off, hap, _, hbw, hcell⟩ := HP.out.at (by omega)
   subst hap
   have hc := (hcell 0 (by omega)).1
   have HE : Hid ((T.mk ps []).least = (pAtB ps 0).1) := by
    show (ps.head?.map (·.1)).getD ⟨#[]⟩ = _
    cases ps <;> rfl
   simp only [T.ps, Nat.zero_mul, Nat.add_zero] at hc
   generalize (pAtB ps 0).1 = k0 at *
   have hp' : (0 : Int) < (np : Int) := by omega
   clear hcell
   go_enter Tryz.func110, Tryz.ntmps110
   go_wp2
   go_ret
   exact ⟨by rw [HE.out]; rfl, HB0.out⟩
 ·have hlf' : lf = false := by rw [hlf]; simp [hk]
  subst hlf'
  have hk' : (0 : Int) < (nk : Int) := by omega
  obtain ⟨g, off, hak, _, hgw, hkid⟩ := (H0.out.kept HB0.out).kids (by omega)
  subst hak
  obtain ⟨l1, ap1, np1, cp1, ak1, nk1, ck1, c0, c1, c2, hs⟩ := hkid 0 (by omega)
  simp only [Nat.zero_mul, Nat.add_zero, T.ks] at c0 c1 c2 hs
  have HS := hid hs
  have hne : ks ≠ [] := by rintro rfl; have := HNK.out; simp [T.ks] at this; omega
  have HM : Hid (tAt ks 0 ∈ ks ∧ (T.mk ps ks).least = (tAt ks 0).least) := by
   cases ks with
   | nil => exact absurd rfl hne
   | cons k ks => exact ⟨by simp [tAt], rfl⟩
  clear hkid hs hne hlf hk
  go_enter Tryz.func110, Tryz.ntmps110
  go_wp2_with fail
  refine (HIH.out (tAt ks 0) HM.out.1 S l1 ap1 ak1 np1 cp1 nk1 ck1 _ HS.out).mono ?_
  rintro e w1 ⟨rfl, hb1⟩
  have HB1 := hid (HB0.out.trans (hb1.mono HB0.out.size))
  clear hb1
  go_wp2
  go_ret
  exact ⟨by rw [HM.out.2]; rfl, HB1.out⟩
open Go.RowKit
mutual
def T.ht : T → Nat | .mk _ ks => 1 + htL ks
def htL : List T → Nat | [] => 0 | k :: ks => max k.ht (htL ks)
end
theorem htL_mem (ks : List T) : ∀ k ∈ ks, k.ht ≤ htL ks := by
 induction ks with
 | nil => intro k h; cases h
 | cons x ks ih =>
  intro k h
  simp only [htL]
  rcases List.mem_cons.1 h with rfl | h
  ·omega
  ·have := ih k h; omega
theorem ev_ht : ∀ (h : Nat) (t : T), Ev h t → h ≤ t.ht
 | 0, _, e => e.elim
 | h + 1, .mk ps ks, e => by
  rcases e with ⟨_, rfl⟩ | ⟨e1, e2⟩
  ·simp [T.ht]
  ·obtain ⟨k, hk⟩ := List.exists_mem_of_ne_nil ks e1
   have h1 := ev_ht h k (e2 k hk)
   have h2 := htL_mem ks k hk
   simp only [T.ht]
   omega
theorem dp_bound (t : T) : -1 ≤ t.dp ∧ t.dp ≤ t.ht := by
 have hlo : -1 ≤ t.dp := by
  obtain ⟨ps, ks⟩ := t
  by_cases hk : ks = []
  ·subst hk; simp [T.dp]
  ·have e : (T.mk ps ks).dp = dpL true 0 ks := by simp [T.dp, hk]
   rw [e]
   rcases dpL_neg_or ks true 0 with h | ⟨h, _⟩
   ·omega
   ·obtain ⟨k, hk'⟩ := List.exists_mem_of_ne_nil ks hk
    have := h k hk'
    omega
 refine ⟨hlo, ?_⟩
 by_cases h0 : 0 ≤ t.dp
 ·have := ev_ht _ t (dp_ev t h0)
  omega
 ·omega
theorem tAt_mem {ks : List T} {k : Nat} (h : k < ks.length) : tAt ks k ∈ ks := by
 simp only [tAt, List.getElem?_eq_getElem h, Option.getD_some]
 exact List.getElem_mem h
theorem drop_tAt {ks : List T} {k : Nat} (h : k < ks.length) : ks.drop k = tAt ks k :: ks.drop (k + 1) := by
 rw [List.drop_eq_getElem_cons h]
 simp [tAt, h]
set_option maxHeartbeats 4000000 in
theorem specDeep_any (t : T) : ∀ (S : Nat → Prop) (lf : Bool) (ap ak : Option Addr) (np cp nk ck : Nat) (w : World), Sub w S lf (.slice ap np cp) (.slice ak nk ck) t → t.ht ≤ 1048576 →
  Calls Tryz.prog 67 #[.agg #[.bool lf, .slice ap np cp, .slice ak nk ck]] w fun e w' => e = .returned (.int .i64 t.dp) ∧ Below w.heap.size w w' := by
 induction t using T.ind
 rename_i ps ks ih
 intro S lf ap ak np cp nk ck w h hht
 obtain ⟨ap', np', cp', ak', nk', ck', e1, e2, HNP, HNK, b1, b2, hlf, hP⟩ := h.shape
 cases e1
 cases e2
 have H0 := hid h
 have HIH := hid ih
 have HHT := hid hht
 clear h ih hP hht
 have HB0 := hid (below_new (o := .cells #[.bool lf, .slice ap np cp, .slice ak nk ck] 115) (w := w) (Below.refl _ _))
 have KP := hid (Bk.new w 115 [.bool lf, .slice ap np cp, .slice ak nk ck])
 simp only [T.ks] at HNK
 by_cases hk : nk = 0
 ·have hlf' : lf = true := by rw [hlf, hk]; rfl
  have hks : ks = [] := List.eq_nil_of_length_eq_zero (by have := HNK.out; omega)
  have HE : Hid ((T.mk ps ks).dp = 1) := by show _ = _; subst hks; simp [T.dp]
  clear H0 hlf hks
  subst hlf' hk
  go_enter Tryz.func67, Tryz.ntmps67
  go_wp2
  go_ret
  exact ⟨by rw [HE.out]; rfl, HB0.out⟩
 ·have hlf' : lf = false := by rw [hlf]; simp [hk]
  subst hlf'
  have HE : Hid ((T.mk ps ks).dp = dpL true 0 ks) := by
   show _ = _
   have : ks ≠ [] := by rintro rfl; have := HNK.out; simp at this; omega
   simp [T.dp, this]
  clear hlf
  go_enter Tryz.func67, Tryz.ntmps67
  go_wp2_with fail
  go_loopw [3, 11] (fun d i wr => ∃ (k : Nat) (z : Int), k ≤ nk ∧ i = .int .i64 k ∧ d = .int .i64 z ∧ Hid (dpL (decide (k = 0)) z (ks.drop k) = dpL true 0 ks) ∧ Hid (Bk wr w.heap.size 115 [.bool false, .slice ap np cp, .slice ak nk ck]) ∧ Hid (Below w.heap.size w wr)) (fun _ i _ => nk - (intOf i).toNat)
  case atStart => exact ⟨0, 0, Nat.zero_le _, rfl, rfl, rfl, KP.out, HB0.out⟩
  case round =>
   obtain ⟨k, z, hkn, rfl, rfl, HD, HK, HB⟩ := hrel
   by_cases hlt : k < nk
   ·have hlt' : (k : Int) < (nk : Int) := by omega
    have hks : k < ks.length := by rw [← HNK.out]; exact hlt
    obtain ⟨g, off, hak, _, hgw, hkid⟩ := (H0.out.kept HB.out).kids (by omega)
    subst hak
    obtain ⟨l1, ap1, np1, cp1, ak1, nk1, ck1, c0, c1, c2, hs⟩ := hkid k hlt
    simp only [T.ks] at hs
    have HS := hid hs
    have p2 := HK.out.cell (j := 2) rfl
    clear hkid hs hgw
    have HHK : Hid ((tAt ks k).ht ≤ 1048576) := by
     show _ ≤ _
     have h1 := htL_mem ks _ (tAt_mem hks)
     have h2 := HHT.out
     simp only [T.ht] at h2
     omega
    have HDD : Hid (dpL (decide (k = 0)) z (ks.drop k) = if (tAt ks k).dp < 0 ∨ (decide (k = 0) = false ∧ (tAt ks k).dp + 1 ≠ z) then -1 else dpL false ((tAt ks k).dp + 1) (ks.drop (k + 1))) := by
     show _ = _
     rw [drop_tAt hks, dpL]
    go_wp2_with fail
    refine (HIH.out (tAt ks k) (tAt_mem hks) S l1 ap1 ak1 np1 cp1 nk1 ck1 wr HS.out HHK.out).mono ?_
    rintro e w1 ⟨rfl, hb1⟩
    have HB1 := hid (HB.out.trans (hb1.mono HB.out.size))
    have HK1 := hid (HK.out.below hb1)
    have hdb := dp_bound (tAt ks k)
    have hdb2 : (tAt ks k).dp ≤ 1048576 := by have := HHK.out; omega
    generalize (tAt ks k).dp = y at *
    clear hb1 HK HB c0 c1 c2 p2
    by_cases hy : y < 0
    ·have HR : Hid ((T.mk ps ks).dp = -1) := by show _ = _; rw [HE.out, ← HD.out, HDD.out, if_pos (.inl hy)]
     clear hdb
     go_wp2
     go_ret
     exact ⟨by rw [HR.out]; rfl, HB1.out⟩
    ·clear hdb
     cases k with
     | zero =>
      have HD2 : Hid (dpL (decide (0 + 1 = 0)) (y + 1) (ks.drop (0 + 1)) = dpL true 0 ks) := by
       show _ = _
       rw [← HD.out, HDD.out, if_neg]
       ·rfl
       ·rintro (h | ⟨h, _⟩)
        ·exact hy h
        ·simp at h
      go_wp2
      go_roundw
      case rel => exact ⟨0 + 1, y + 1, by omega, by go_num, by go_num, HD2.out, HK1.out, HB1.out⟩
      case measure => simp [intOf]; omega
     | succ k' =>
      have hk1 : (0 : Int) < (k' : Int) + 1 := by omega
      by_cases hyz : y + 1 = z
      ·have HD2 : Hid (dpL (decide (k' + 1 + 1 = 0)) (y + 1) (ks.drop (k' + 1 + 1)) = dpL true 0 ks) := by
        show _ = _
        rw [← HD.out, HDD.out, if_neg]
        ·rfl
        ·rintro (h | ⟨_, h⟩)
         ·exact hy h
         ·exact h hyz
       have hne : (y + 1 != z) = false := by simp [hyz]
       clear hyz
       go_wp2
       go_roundw
       case rel => exact ⟨k' + 1 + 1, y + 1, by omega, by go_num, by go_num, HD2.out, HK1.out, HB1.out⟩
       case measure => simp [intOf]; omega
      ·have HR : Hid ((T.mk ps ks).dp = -1) := by show _ = _; rw [HE.out, ← HD.out, HDD.out, if_pos (.inr ⟨by simp, hyz⟩)]
       have hne : (y + 1 != z) = true := by simp [hyz]
       clear hyz
       go_wp2
       go_ret
       exact ⟨by rw [HR.out]; rfl, HB1.out⟩
   ·have hk' : k = nk := by omega
    have HR : Hid ((T.mk ps ks).dp = z) := by
     show _ = _
     rw [HE.out, ← HD.out, hk', HNK.out, List.drop_length]
     rfl
    clear hk' HD
    go_wp2
    go_ret
    exact ⟨by rw [HR.out]; rfl, HB.out⟩
set_option maxHeartbeats 4000000 in
theorem specFull_any (t : T) : ∀ (S : Nat → Prop) (root lf : Bool) (ap ak : Option Addr) (np cp nk ck : Nat) (w : World), Sub w S lf (.slice ap np cp) (.slice ak nk ck) t →
  Calls Tryz.prog 66 #[.agg #[.bool lf, .slice ap np cp, .slice ak nk ck], .bool root] w fun e w' => e = .returned (.bool (t.full root)) ∧ Below w.heap.size w w' := by
 induction t using T.ind
 rename_i ps ks ih
 intro S root lf ap ak np cp nk ck w h
 obtain ⟨ap', np', cp', ak', nk', ck', e1, e2, HNP, HNK, b1, b2, hlf, hP⟩ := h.shape
 cases e1
 cases e2
 have H0 := hid h
 have HIH := hid ih
 clear h ih hP
 have HB0 := hid (below_new (o := .cells #[.bool lf, .slice ap np cp, .slice ak nk ck] 115) (w := w) (Below.refl _ _))
 have KP := hid (Bk.new w 115 [.bool lf, .slice ap np cp, .slice ak nk ck])
 simp only [T.ks, T.ps] at HNK HNP
 by_cases hk : nk = 0
 ·have hlf' : lf = true := by rw [hlf, hk]; rfl
  have hks : ks = [] := List.eq_nil_of_length_eq_zero (by have := HNK.out; omega)
  have HE : Hid ((T.mk ps ks).full root = (decide (np ≤ 4) && (decide (2 ≤ np) || root && decide (np = 1)))) := by show _ = _; rw [HNP.out]; subst hks; simp [T.full]
  clear H0 hlf hks
  subst hlf' hk
  by_cases a1 : np ≤ 4
  ·have e1 : (np : Int) ≤ 4 := by omega
   by_cases a2 : 2 ≤ np
   ·have e2 : (2 : Int) ≤ (np : Int) := by omega
    have HR : Hid ((T.mk ps ks).full root = true) := by show _ = _; rw [HE.out]; simp [a1, a2]
    go_enter Tryz.func66, Tryz.ntmps66
    go_wp2
    go_ret
    exact ⟨by rw [HR.out]; rfl, HB0.out⟩
   ·have e2 : ¬ (2 : Int) ≤ (np : Int) := by omega
    cases root
    ·have HR : Hid ((T.mk ps ks).full false = false) := by show _ = _; rw [HE.out]; simp [a2]
     go_enter Tryz.func66, Tryz.ntmps66
     go_wp2
     go_ret
     exact ⟨by rw [HR.out]; rfl, HB0.out⟩
    ·by_cases a3 : np = 1
     ·have e3 : ((np : Int) == 1) = true := by simp; omega
      have HR : Hid ((T.mk ps ks).full true = true) := by show _ = _; rw [HE.out]; simp [a3]
      clear a3
      go_enter Tryz.func66, Tryz.ntmps66
      go_wp2
      go_ret
      exact ⟨by rw [HR.out]; rfl, HB0.out⟩
     ·have e3 : ((np : Int) == 1) = false := by simp; omega
      have HR : Hid ((T.mk ps ks).full true = false) := by show _ = _; rw [HE.out]; simp [a2, a3]
      clear a3
      go_enter Tryz.func66, Tryz.ntmps66
      go_wp2
      go_ret
      exact ⟨by rw [HR.out]; rfl, HB0.out⟩
  ·have e1 : ¬ (np : Int) ≤ 4 := by omega
   have HR : Hid ((T.mk ps ks).full root = false) := by show _ = _; rw [HE.out]; simp [a1]
   go_enter Tryz.func66, Tryz.ntmps66
   go_wp2
   go_ret
   exact ⟨by rw [HR.out]; rfl, HB0.out⟩
 ·have hlf' : lf = false := by rw [hlf]; simp [hk]
  subst hlf'
  have HE : Hid ((T.mk ps ks).full root = (decide (2 ≤ nk) && decide (nk ≤ 4) && decide (np = 0) && fullL ks)) := by
   show _ = _
   have : ks ≠ [] := by rintro rfl; have := HNK.out; simp at this; omega
   rw [HNP.out, HNK.out]
   simp [T.full, this]
  clear hlf
  by_cases a1 : nk < 2
  ·have e1 : (nk : Int) < 2 := by omega
   have HR : Hid ((T.mk ps ks).full root = false) := by show _ = _; rw [HE.out]; simp; omega
   go_enter Tryz.func66, Tryz.ntmps66
   go_wp2
   go_ret
   exact ⟨by rw [HR.out]; rfl, HB0.out⟩
  ·have e1 : ¬ (nk : Int) < 2 := by omega
   by_cases a2 : 4 < nk
   ·have e2 : (4 : Int) < (nk : Int) := by omega
    have HR : Hid ((T.mk ps ks).full root = false) := by show _ = _; rw [HE.out]; simp; omega
    go_enter Tryz.func66, Tryz.ntmps66
    go_wp2
    go_ret
    exact ⟨by rw [HR.out]; rfl, HB0.out⟩
   ·have e2 : ¬ (4 : Int) < (nk : Int) := by omega
    by_cases a3 : 0 < np
    ·have e3 : (0 : Int) < (np : Int) := by omega
     have HR : Hid ((T.mk ps ks).full root = false) := by show _ = _; rw [HE.out]; simp; omega
     go_enter Tryz.func66, Tryz.ntmps66
     go_wp2
     go_ret
     exact ⟨by rw [HR.out]; rfl, HB0.out⟩
    ·have e3 : ¬ (0 : Int) < (np : Int) := by omega
     have HE2 : Hid ((T.mk ps ks).full root = fullL ks) := by show _ = _; rw [HE.out]; simp [show np = 0 by omega, show 2 ≤ nk by omega, show nk ≤ 4 by omega]
     go_enter Tryz.func66, Tryz.ntmps66
     go_wp2_with fail
     go_loopw [46] (fun i wr => ∃ (k : Nat), k ≤ nk ∧ i = .int .i64 k ∧ Hid (fullL (ks.drop k) = fullL ks) ∧ Hid (Bk wr w.heap.size 115 [.bool false, .slice ap np cp, .slice ak nk ck]) ∧ Hid (Below w.heap.size w wr)) (fun i _ => nk - (intOf i).toNat)
     case atStart => exact ⟨0, Nat.zero_le _, rfl, rfl, KP.out, HB0.out⟩
     case round =>
      obtain ⟨k, hkn, rfl, HD, HK, HB⟩ := hrel
      by_cases hlt : k < nk
      ·have hlt' : (k : Int) < (nk : Int) := by omega
       have hks : k < ks.length := by rw [← HNK.out]; exact hlt
       obtain ⟨g, off, hak, _, hgw, hkid⟩ := (H0.out.kept HB.out).kids (by omega)
       subst hak
       obtain ⟨l1, ap1, np1, cp1, ak1, nk1, ck1, c0, c1, c2, hs⟩ := hkid k hlt
       simp only [T.ks] at hs
       have HS := hid hs
       have p2 := HK.out.cell (j := 2) rfl
       clear hkid hs hgw
       have HDD : Hid (fullL (ks.drop k) = ((tAt ks k).full false && fullL (ks.drop (k + 1)))) := by
        show _ = _
        rw [drop_tAt hks, fullL]
       go_wp2_with fail
       refine (HIH.out (tAt ks k) (tAt_mem hks) S false l1 ap1 ak1 np1 cp1 nk1 ck1 wr HS.out).mono ?_
       rintro e w1 ⟨rfl, hb1⟩
       have HB1 := hid (HB.out.trans (hb1.mono HB.out.size))
       have HK1 := hid (HK.out.below hb1)
       clear hb1 HK HB c0 c1 c2 p2
       cases hy : (tAt ks k).full false
       ·have HR : Hid ((T.mk ps ks).full root = false) := by show _ = _; rw [HE2.out, ← HD.out, HDD.out, hy]; rfl
        clear hy
        go_wp2
        go_ret
        exact ⟨by rw [HR.out]; rfl, HB1.out⟩
       ·have HD2 : Hid (fullL (ks.drop (k + 1)) = fullL ks) := by show _ = _; rw [← HD.out, HDD.out, hy]; rfl
        clear hy
        go_wp2
        go_roundw
        case rel => exact ⟨k + 1, by omega, by go_num, HD2.out, HK1.out, HB1.out⟩
        case measure => simp [intOf]; omega
      ·have hk' : k = nk := by omega
       have HR : Hid ((T.mk ps ks).full root = true) := by
        show _ = _
        rw [HE2.out, ← HD.out, hk', HNK.out, List.drop_length]
        rfl
       clear hk' HD
       go_wp2
       go_ret
       exact ⟨by rw [HR.out]; rfl, HB.out⟩
set_option maxHeartbeats 4000000 in
theorem specPairs_any (t : T) : ∀ (S : Nat → Prop) (lf : Bool) (ap ak : Option Addr) (np cp nk ck : Nat) (w : World), Sub w S lf (.slice ap np cp) (.slice ak nk ck) t → t.all.length ≤ 1048576 →
  Calls Tryz.prog 69 #[.agg #[.bool lf, .slice ap np cp, .slice ak nk ck]] w fun e w' => ∃ v, e = .returned v ∧ Ow w' w.heap.size v t.all ∧ Below w.heap.size w w' := by
 induction t using T.ind
 rename_i ps ks ih
 intro S lf ap ak np cp nk ck w h hal
 obtain ⟨ap', np', cp', ak', nk', ck', e1, e2, HNP, HNK, b1, b2, hlf, hP⟩ := h.shape
 cases e1
 cases e2
 have H0 := hid h
 have HP := hid hP
 have HIH := hid ih
 have HAL : Hid (ps.length + (allL ks).length ≤ 1048576) := by show _ ≤ _; simpa [T.all] using hal
 clear h ih hP hal hlf
 have HB0 : Hid (Below w.heap.size w ((w.alloc (.cells #[.bool lf, .slice ap np cp, .slice ak nk ck] 115)).alloc (.cells #[] 112))) := below_new (below_new (Below.refl _ _))
 have KP := hid ((Bk.new w 115 [.bool lf, .slice ap np cp, .slice ak nk ck]).alloc (.cells #[] 112))
 have HO : Hid (Ow ((w.alloc (.cells #[.bool lf, .slice ap np cp, .slice ak nk ck] 115)).alloc (.cells #[] 112)) (w.heap.size + 1) (.slice (some ⟨w.heap.size + 1, 0, none⟩) 0 0) []) := by
  have := ow_new (w.alloc (.cells #[.bool lf, .slice ap np cp, .slice ak nk ck] 115)) (w.heap.size + 1) (by simp)
  show Ow _ _ _ _
  simpa using this
 simp only [T.ks, T.ps] at HNK HNP HP
 go_enter Tryz.func69, Tryz.ntmps69
 go_wp2_with (at_builtin; refine wpList_append_pairs rfl _ _ rfl (w.heap.size + 1) _ [] rfl HO.out S _ ps rfl (HP.out.below HB0.out) ?q1 ?q2 ?_)
 case q1 => have := HAL.out; simp; omega
 case q2 => simp
 intro v1 w1 hO1 hg1
 have HB1 : Hid (Below (w.heap.size + 1) ((w.alloc (.cells #[.bool lf, .slice ap np cp, .slice ak nk ck] 115)).alloc (.cells #[] 112)) w1) := grown_belowB HO.out hg1 (by simp)
 have HO1 := hid hO1
 have HBW := hid (HB0.out.trans (HB1.out.mono (by omega)))
 have KP1 : Hid (Bk w1 w.heap.size 115 [.bool lf, .slice ap np cp, .slice ak nk ck]) := KP.out.to (only_of_belowB HB1.out) (by omega)
 obtain ⟨a1, n1, cc1, hv1, HN1⟩ := hO1.shape'
 subst hv1
 have p2 := KP1.out.cell (j := 2) rfl
 clear hO1 hg1 HB1 HB0 KP HO
 go_wp2_with fail
 go_loopw [3, 12] (fun x i wr => ∃ (k : Nat) (v' : Value), k ≤ nk ∧ i = .int .i64 k ∧ x = v' ∧ Hid (Ow wr (w.heap.size + 1) v' (ps ++ allL (ks.take k))) ∧ Hid (Bk wr w.heap.size 115 [.bool lf, .slice ap np cp, .slice ak nk ck]) ∧ Hid (Below w.heap.size w wr)) (fun _ i _ => nk - (intOf i).toNat)
 case atStart => exact ⟨0, _, Nat.zero_le _, rfl, rfl, by show Ow _ _ _ _; simpa [allL] using HO1.out, KP1.out, HBW.out⟩
 case round =>
  obtain ⟨k, v', hkn, rfl, hv', HO2, HK, HB⟩ := hrel
  obtain ⟨a2, n2, cc2, hv2, HN2⟩ := HO2.out.shape'
  subst hv2
  subst hv'
  clear p2
  by_cases hlt : k < nk
  ·have hlt' : (k : Int) < (nk : Int) := by omega
   have hks : k < ks.length := by rw [← HNK.out]; exact hlt
   obtain ⟨g, off, hak, _, hgw, hkid⟩ := (H0.out.kept HB.out).kids (by omega)
   subst hak
   obtain ⟨l1, ap1, np1, cp1, ak1, nk1, ck1, c0, c1, c2, hs⟩ := hkid k hlt
   simp only [T.ks] at hs
   have HS := hid hs
   have p2 := HK.out.cell (j := 2) rfl
   clear hkid hs hgw
   have HTK : Hid (allL (ks.take (k + 1)) = allL (ks.take k) ++ (tAt ks k).all) := allL_take ks k hks
   have HLN : Hid ((ps ++ allL (ks.take k)).length + (tAt ks k).all.length ≤ 1048576) := by
    show _ ≤ _
    have h1 := allL_take_le ks (k + 1)
    have h2 := HAL.out
    rw [HTK.out] at h1
    simp only [List.length_append] at h1 ⊢
    omega
   go_wp2_with fail
   refine (HIH.out (tAt ks k) (tAt_mem hks) S l1 ap1 ak1 np1 cp1 nk1 ck1 wr HS.out (by have := HLN.out; omega)).mono ?_
   rintro e w2 ⟨v3, rfl, hO3, hb2⟩
   obtain ⟨a3, n3, cc3, hv3, HN3⟩ := hO3.shape'
   subst hv3
   have HO3 := hid hO3
   have HO4 := hid (HO2.out.kept hb2)
   have HK2 := hid (HK.out.below hb2)
   have HB2 := hid (HB.out.trans (hb2.mono HB.out.size))
   have HSZ : Hid (w.heap.size + 1 ≤ w2.heap.size) := HK2.out.lt
   clear hO3 hb2 HO2 HK HB c0 c1 c2 p2
   go_wp2_with (at_builtin; refine wpList_append_pairs rfl _ _ rfl (w.heap.size + 1) _ (ps ++ allL (ks.take k)) rfl HO4.out (fun _ => True) _ (tAt ks k).all rfl (HO3.out.pr (fun _ _ _ _ => trivial)) ?q1 ?q2 ?_)
   case q1 => have := HLN.out; omega
   case q2 => exact HSZ.out
   intro v5 w5 hO5 hg5
   have HB5 := grown_belowB HO4.out hg5 HSZ.out
   have HO5 : Hid (Ow w5 (w.heap.size + 1) v5 (ps ++ allL (ks.take (k + 1)))) := by
    show Ow _ _ _ _
    rw [HTK.out]
    simpa using hO5
   have HK5 : Hid (Bk w5 w.heap.size 115 [.bool lf, .slice ap np cp, .slice (some ⟨g, off, none⟩) nk ck]) := HK2.out.to (only_of_belowB HB5) (by omega)
   have HBB := hid (HB2.out.trans (HB5.mono (by omega)))
   obtain ⟨a5, n5, cc5, hv5, HN5⟩ := hO5.shape'
   subst hv5
   clear hO5 hg5 HB5 HO3 HO4 HK2 HB2
   go_wp2
   go_roundw
   case rel => exact ⟨k + 1, _, by omega, by go_num, rfl, HO5.out, HK5.out, HBB.out⟩
   case measure => simp [intOf]; omega
  ·have hk' : k = nk := by omega
   have HF : Hid (Ow wr w.heap.size (.slice a2 n2 cc2) (T.mk ps ks).all) := by
    show Ow _ _ _ _
    have e : (T.mk ps ks).all = ps ++ allL (ks.take k) := by rw [hk', HNK.out, List.take_length]; simp [T.all]
    rw [e]
    exact own_mono HO2.out (by omega)
   clear hk'
   go_wp2
   go_ret
   exact ⟨_, rfl, HF.out, HB.out⟩
open Go.RowKit
theorem infoPtrL : (Tryz.prog.info? 165).map (fun i => (i.zero, i.size, i.bytes)) = some (some (.pointer none), 1, 8) := by kernel_rfl
def Ok (w : World) (base : Nat) (v : Value) (n : Nat) (A : Nat → Nat) : Prop := w.ownsRow base 165 1 v n (ptrs A n)
theorem Ok.to {w w' : World} {R : Nat → Prop} {base n : Nat} {v : Value} {A : Nat → Nat} (h : Ok w base v n A) (ho : Only R w w') (hR : ∀ k, v.ownBlock = some k → ¬ R k) : Ok w' base v n A := own_kept h ho hR
theorem Ok.kept {w w' : World} {base n : Nat} {v : Value} {A : Nat → Nat} (h : Ok w base v n A) (hb : Below w.heap.size w w') : Ok w' base v n A := h.to (only_of_below hb (fun _ => False)) (fun _ _ h => h)
theorem Ok.shape {w : World} {base n : Nat} {v : Value} {A : Nat → Nat} (h : Ok w base v n A) : ∃ a c, v = .slice a n c := own_shape h
theorem ptrs_snoc (A : Nat → Nat) (n b : Nat) : ptrs A n ++ [ptr b] = ptrs (fun i => if i = n then b else A i) (n + 1) := by
 simp only [ptrs, List.range_succ, List.map_append, List.map_cons, List.map_nil, if_true]
 congr 1
 apply List.map_congr_left
 intro i hi
 rw [if_neg (by have := List.mem_range.1 hi; omega)]
theorem wpList_append_ptr {w : World} {ops : Array Oper} {rest : List Oper} {o : Oper} {a : Act} {Q : Exit → Act → World → Prop} (hgd : o.guard = none) (s x : Operand)
  (ho : o.op = .call { callee := .builtin .append, args := #[s, x], argTypes := #[193, 193] }) (base : Nat) (v : Value) (n : Nat) (A : Nat → Nat) (hs : a.eval s = v) (hown : Ok w base v n A)
  (g b : Nat) (hx : a.eval x = .slice (some ⟨g, 0, none⟩) 1 1) (hc : w.cell? ⟨g, 0, none⟩ = some (.pointer (some ⟨b, 0, none⟩))) (hb : n ≤ 1048576) (hbase : base ≤ w.heap.size)
  (h : ∀ v' w', Ok w' base v' (n + 1) (fun i => if i = n then b else A i) → w.grownBy w' v.ownBlock → (v'.ownBlock = v.ownBlock ∨ v'.ownBlock = some w.heap.size) → wpList Tryz.prog ops Q rest (a.put o.dst v') w') : wpList Tryz.prog ops Q (o :: rest) a w := by
 obtain ⟨i, hi, hz, hsz, hby⟩ := info_of infoPtrL
 refine wpList_append_row_at hgd s x 193 ho base 165 i _ 1 8 Tryz.underlying193 hi hz hsz hby rfl (by decide) v n (ptrs A n) hs hown (fun _ => True) _ 1 [ptr b] hx ?_ rfl (by intro u hu; simp at hu; subst hu; rfl) (by unfold maxLen; omega) (by omega) hbase ?_
 ·refine ⟨_, 1, rfl, Nat.le_refl _, by omega, fun h => by omega, fun h => (by cases h), fun _ => ⟨g, 0, rfl, block_lt hc, trivial, fun j u hu => ?_⟩⟩
  cases j with
  | zero => simp at hu; subst hu; simpa [ptr] using hc
  | succ j => simp at hu
 ·intro v' w' h1 h2 h3
  refine h v' w' ?_ h2 h3
  unfold Ok
  rw [← ptrs_snoc]
  exact h1
theorem tAt_snoc (ts : List T) (t : T) (i : Nat) (h : i < (ts ++ [t]).length) : tAt (ts ++ [t]) i = if i = ts.length then t else tAt ts i := by
 by_cases e : i = ts.length
 ·subst e; simp [tAt]
 ·simp at h
  rw [if_neg e]
  simp [tAt, List.getElem?_append_left (show i < ts.length by omega)]
theorem full_ne : ∀ (t : T) (r : Bool), t.full r = true → t.ne
 | .mk ps [], r, h => by
  have := full_lf h
  show ps ≠ []
  rintro rfl
  simp at this
 | .mk ps (k :: ks), r, h => by
  have := full_br h (by simp)
  exact full_ne k false (this.2.2.2 k (by simp))
structure Rdy (t : T) : Prop where
 ne : t.ne
 bare : t.bare = false
 few : t.ps.length + t.ks.length ≤ 1048576
 lv : t.lv ≤ 1048576
theorem full_few {t : T} {r : Bool} (h : t.full r = true) : t.ps.length + t.ks.length ≤ 8 ∧ t.bare = false := by
 obtain ⟨ps, ks⟩ := t
 by_cases hk : ks = []
 ·subst hk
  have := full_lf h
  simp [T.ps, T.ks, T.bare]
  refine ⟨by omega, ?_⟩
  rintro rfl
  simp at this
 ·have := full_br h hk
  simp only [T.ps, T.ks, T.bare, this.2.2.1, List.length_nil, decide_eq_false_iff_not]
  omega
theorem rdy_of {h : Nat} {t : T} {r : Bool} (e : Ev h t) (hu : t.full r = true) (hs : t.size ≤ 1048576) : Rdy t := by
 have h1 := full_few hu
 have h2 := ev_le_size e hu
 have h3 := ev_lv h t e
 exact ⟨full_ne t r hu, h1.2, by omega, by omega⟩
theorem pre_len {ns l : List NB} {a : Nat} (h : Pre ns a l) (hl : 0 < l.length) : a + l.length ≤ ns.length := by
 have := h (l.length - 1) (by omega)
 rw [List.getElem?_eq_getElem (by omega : l.length - 1 < l.length)] at this
 have := (List.getElem?_eq_some_iff.1 this).1
 omega
theorem rdI_rdy {ns : List NB} {f : Nat} {pl : Int} {nx n1 : Nat} {t : T} (h : rdI ns f pl nx = some (t, n1)) (hl : ns.length ≤ 1048576) : Rdy t ∧ n1 ≤ ns.length ∧ nx < n1 := by
 obtain ⟨_, h2, h3, ⟨e, h4⟩, h5, rfl⟩ := rdI_sound ns f pl nx t n1 h
 have h6 := pre_len h5 (by rw [lay_length]; exact T.size_pos t)
 rw [lay_length] at h6
 have := T.size_pos t
 exact ⟨rdy_of h4 h3 (by omega), by omega, by omega⟩
def ReadPost (o : Option (T × Nat)) (w : World) (wb : Nat) (nv : Value) (e : Ending) (w' : World) : Prop := match o with
 | none => e = .returned (.pointer none)
 | some (t, n1) => ∃ b, e = .returned (.pointer (some ⟨b, 0, none⟩)) ∧ Limb w' (fun y => w.heap.size ≤ y ∧ y < w'.heap.size) b t ∧ Bk w' wb 197 [nv, .int .i64 n1]
def ReadC (ns : List NB) (f : Nat) : Prop := ∀ (S : Nat → Prop) (wb : Nat) (an : Option Addr) (nn cn : Nat) (pl : Int) (nx : Nat) (w : World), Bk w wb 197 [.slice an nn cn, .int .i64 nx] → Nr w S (.slice an nn cn) ns → ¬ S wb → ns.length < 400 → nx ≤ ns.length → ns.length ≤ nx + f →
 Calls Tryz.prog 151 #[.pointer (some ⟨wb, 0, none⟩), .int .i64 pl] w fun e w' => ReadPost (rdI ns f pl nx) w wb (.slice an nn cn) e w' ∧ Only (fun b => b = wb) w w'
def brT (ns : List NB) (f : Nat) (x : NB) (nx : Nat) : Option (T × Nat) := if brOk x = true then (match rdIL (rdI ns f) x.keys [] x.kids nx with
 | none => none
 | some (ts, n) => some (.mk [] ts, n)) else none
open Go.RowKit
theorem load_sub {w : World} {g : Nat} {x y z : Value} (c0 : w.cell? ⟨g, 0, none⟩ = some x) (c1 : w.cell? ⟨g, 1, none⟩ = some y) (c2 : w.cell? ⟨g, 2, none⟩ = some z) :
  (loadVar 115 ⟨g, 0, none⟩).run Tryz.prog w = .ok (.agg #[x, y, z]) w := by go_simp
theorem results_sub3 {fn : Func} {p u v : Tmp} (h : fn.results = #[.cell p 115, .tmp u, .tmp v]) (tmps : Array Value) (w : World) (g : Nat) {x y z b d : Value} (hp : tmps.getD p undef = .pointer (some ⟨g, 0, none⟩)) (hb : tmps.getD u undef = b) (hd : tmps.getD v undef = d)
  (c0 : w.cell? ⟨g, 0, none⟩ = some x) (c1 : w.cell? ⟨g, 1, none⟩ = some y) (c2 : w.cell? ⟨g, 2, none⟩ = some z) : (results fn tmps).run Tryz.prog w = .ok (.tuple #[.agg #[x, y, z], b, d]) w := by
 have hp' : tmps[p]?.getD undef = .pointer (some ⟨g, 0, none⟩) := by simpa using hp
 have hb' : tmps[u]?.getD undef = b := by simpa using hb
 have hd' : tmps[v]?.getD undef = d := by simpa using hd
 simp [results, h, hp', hb', hd', asAddr, load_sub c0 c1 c2]
def SubPost (o : Option (T × Nat)) (w : World) (e : Ending) (w' : World) : Prop := match o with
 | none => e = .returned (.tuple #[.agg #[.bool false, .slice none 0 0, .slice none 0 0], .int .i64 0, .bool false])
 | some (t, n) => ∃ lf ap np cp ak nk ck, e = .returned (.tuple #[.agg #[.bool lf, .slice ap np cp, .slice ak nk ck], .int .i64 (n : Nat), .bool true]) ∧ Sub w' (fun y => w.heap.size ≤ y ∧ y < w'.heap.size) lf (.slice ap np cp) (.slice ak nk ck) t
theorem mkV_snoc (L : Nat → Bool) (P K : Nat → Value) (n : Nat) (l : Bool) (p k : Value) : mkV L P K n ++ [(.bool l, p, k)] = mkV (fun i => if i = n then l else L i) (fun i => if i = n then p else P i) (fun i => if i = n then k else K i) (n + 1) := by
 simp only [mkV, List.range_succ, List.map_append, List.map_cons, List.map_nil, if_true]
 congr 1
 apply List.map_congr_left
 intro i hi
 have : i ≠ n := by have := List.mem_range.1 hi; omega
 simp [this]
structure SpI (w wr : World) (sb bs : Nat) (lf : Bool) (nv pv : Value) (ps : List PB) (ts : List T) (kv : Value) (L : Nat → Bool) (P K : Nat → Value) : Prop where
 lo : w.heap.size + 3 ≤ sb ∧ sb < bs
 hi : bs ≤ wr.heap.size
 tre : Bk wr w.heap.size 33 [nv]
 res : Bk wr (w.heap.size + 1) 115 [.bool false, .slice none 0 0, .slice none 0 0]
 sub : Bk wr sb 115 [.bool lf, pv, kv]
 par : Pr wr (fun y => w.heap.size + 3 ≤ y ∧ y < bs ∧ y ≠ sb) pv ps
 row : wr.ownsRow bs 115 3 kv ts.length (ncs (mkV L P K ts.length))
 kid : ∀ i, i < ts.length → Sub wr (fun y => bs ≤ y ∧ y < wr.heap.size ∧ kv.ownBlock ≠ some y) (L i) (P i) (K i) (tAt ts i)
 bel : Below w.heap.size w wr
theorem SpI.keep {w wr w1 : World} {sb bs : Nat} {lf : Bool} {nv pv : Value} {ps : List PB} {ts : List T} {kv : Value} {L : Nat → Bool} {P K : Nat → Value} (h : SpI w wr sb bs lf nv pv ps ts kv L P K) (hb : Below wr.heap.size wr w1) : SpI w w1 sb bs lf nv pv ps ts kv L P K :=
 ⟨h.lo, Nat.le_trans h.hi hb.size, h.tre.below hb, h.res.below hb, h.sub.below hb, h.par.below hb, own_kept h.row (only_of_below hb (fun _ => False)) (fun _ _ h => h), fun i hi => ((h.kid i hi).kept hb).mono (fun _ hx _ => ⟨hx.1, Nat.lt_of_lt_of_le hx.2.1 hb.size, hx.2.2⟩), h.bel.trans (hb.mono h.bel.size)⟩
theorem SpI.push {w u w2 : World} {sb bs : Nat} {lf : Bool} {nv pv : Value} {ps : List PB} {ts : List T} {kv v' : Value} {L : Nat → Bool} {P K : Nat → Value} (h : SpI w u sb bs lf nv pv ps ts kv L P K)
  {l : Bool} {p k : Value} {t : T} (hl : Sub u (fun y => bs ≤ y ∧ y < u.heap.size ∧ kv.ownBlock ≠ some y) l p k t)
  (ho : w2.ownsRow bs 115 3 v' (ts.length + 1) (ncs (mkV L P K ts.length) ++ [.bool l, p, k])) (hg : u.grownBy w2 kv.ownBlock) (ha : v'.ownBlock = kv.ownBlock ∨ v'.ownBlock = some u.heap.size) :
  SpI w (w2.setCell ⟨sb, 2, none⟩ v') sb bs lf nv pv ps (ts ++ [t]) v' (fun i => if i = ts.length then l else L i) (fun i => if i = ts.length then p else P i) (fun i => if i = ts.length then k else K i) := by
 have hlo := h.lo
 have hkv := fun x e => (World.ownsRow.lt h.row x e).1
 have hsz : u.heap.size ≤ w2.heap.size := hg.size
 have hsb := h.sub.lt
 have hav : ∀ x, v'.ownBlock = some x → bs ≤ x := fun x e => (World.ownsRow.lt ho x e).1
 have o1 : Only (fun b => some b = kv.ownBlock) u w2 := only_of_grown hg (fun k e => e.symm)
 have o2 : Only (fun b => b = sb) w2 (w2.setCell ⟨sb, 2, none⟩ v') := only_set (R := fun b => b = sb) rfl _
 have o3 : Only (fun b => some b = kv.ownBlock ∨ b = sb) u (w2.setCell ⟨sb, 2, none⟩ v') := (o1.mono (fun _ _ e => .inl e)).then o2 (fun _ _ e => .inr e)
 have hz : (w2.setCell ⟨sb, 2, none⟩ v').heap.size = w2.heap.size := by simp [World.setCell]
 have hR : ∀ y, y < bs → y ≠ sb → ¬ (some y = kv.ownBlock ∨ y = sb) := by
  rintro y hy hne (e | e)
  ·have := hkv y e.symm; omega
  ·exact hne e
 have fin : ∀ {l : Bool} {p k : Value} {t : T}, Sub u (fun y => bs ≤ y ∧ y < u.heap.size ∧ kv.ownBlock ≠ some y) l p k t → Sub (w2.setCell ⟨sb, 2, none⟩ v') (fun y => bs ≤ y ∧ y < (w2.setCell ⟨sb, 2, none⟩ v').heap.size ∧ v'.ownBlock ≠ some y) l p k t := by
  intro l p k t hs
  refine (hs.to o3 (fun x hx _ => ?_)).mono (fun x hx _ => ⟨hx.1, by rw [hz]; omega, ?_⟩)
  ·rintro (e | e)
   ·exact hx.2.2 e.symm
   ·have := hx.1; omega
  ·rcases ha with ha | ha
   ·rw [ha]; exact hx.2.2
   ·rw [ha]; intro e; cases e; omega
 have hhi := h.hi
 refine ⟨h.lo, by rw [hz]; omega, h.tre.to o3 (hR _ (by omega) (by omega)), h.res.to o3 (hR _ (by omega) (by omega)), ?_, h.par.to o3 (fun y hy _ => hR y hy.2.1 hy.2.2), ?_, ?_, ?_⟩
 ·have k1 := h.sub.to o1 (fun e => by have := hkv sb e.symm; omega)
  exact k1.set 2 v'
 ·rw [List.length_append]
  have := own_kept ho o2 (fun x e => by have := hav x e; omega)
  rw [show [Value.bool l, p, k] = ncs [(.bool l, p, k)] from rfl, ← ncs_append, mkV_snoc] at this
  exact this
 ·intro i hi
  rw [tAt_snoc _ _ _ hi]
  by_cases e : i = ts.length
  ·subst e
   simp only [if_true]
   exact fin hl
  ·simp only [e, if_false]
   simp at hi
   exact fin (h.kid i (by omega))
 ·exact (h.bel.trans (o3.below (by have := h.bel.size; omega) (fun y hy => hR y (by omega) (by omega))))
theorem SpI.done {w wr : World} {sb bs : Nat} {lf : Bool} {nv pv : Value} {ps : List PB} {ts : List T} {kv : Value} {L : Nat → Bool} {P K : Nat → Value} (h : SpI w wr sb bs lf nv pv ps ts kv L P K) (hlf : lf = decide (ts.length = 0)) :
  Sub wr (fun y => (w.heap.size ≤ y ∧ y < wr.heap.size) ∧ y ≠ w.heap.size + 1) lf pv kv (.mk ps ts) := by
 have hlo := h.lo
 have hsb := h.sub.lt
 refine .mk lf pv kv ps ts L P K hlf (Rw.mono h.par (fun y hy hy2 => ⟨⟨by omega, hy2⟩, by omega⟩)) (rw_own h.row (fun y _ h1 h2 => ⟨⟨by omega, h2⟩, by omega⟩)) (fun i hi => (h.kid i hi).mono (fun y hy _ => ⟨⟨by omega, hy.2.1⟩, by omega⟩))
theorem ow_at {W : World} {g base : Nat} (hg : W.heap[g]? = some (.cells #[] 112 (0, 0))) (hb : base ≤ g) : Ow W base (.slice (some ⟨g, 0, none⟩) 0 0) [] :=
 ⟨rfl, .inr ⟨g, 0, #[], rfl, hb, hg, Nat.le_refl _, by decide, rfl, rfl⟩⟩
theorem kc2g {u v v' : World} {a0 a1 : Addr} {x0 x1 : Value} {row : Option Nat} (hg : v.grownBy v' row) (hr : ∀ k, row = some k → u.heap.size ≤ k) (h : v.cell? a0 = some x0 ∧ v.cell? a1 = some x1 ∧ KC u v [(a0, x0), (a1, x1)]) : v'.cell? a0 = some x0 ∧ v'.cell? a1 = some x1 ∧ KC u v' [(a0, x0), (a1, x1)] :=
 kc2 ⟨h.2.2.cells, h.2.2.bel.grown hg h.2.2.bel.size hr⟩
theorem kc2w {u v : World} {o o' : Obj} {a0 a1 : Addr} {x0 x1 : Value} (hs : u.heap.size ≤ v.heap.size) (h : (v.alloc o).cell? a0 = some x0 ∧ (v.alloc o).cell? a1 = some x1 ∧ KC u (v.alloc o) [(a0, x0), (a1, x1)]) : (v.alloc o').cell? a0 = some x0 ∧ (v.alloc o').cell? a1 = some x1 ∧ KC u (v.alloc o') [(a0, x0), (a1, x1)] := by
 obtain ⟨_, _, h1, h2⟩ := h
 refine kc2 ⟨h1, h2.os, h2.tape, h2.output, by simp; omega, fun k hk => ?_⟩
 rw [Below.heap_alloc _ _ _ (by omega), ← h2.block k hk, Below.heap_alloc _ _ _ (by omega)]
theorem kc2s {u v : World} {g i j k : Nat} {x y z : Value} {a0 a1 : Addr} {x0 x1 : Value} (hs : u.heap.size ≤ g) (h : v.cell? a0 = some x0 ∧ v.cell? a1 = some x1 ∧ KC u v [(a0, x0), (a1, x1)]) :
  (((v.setCell ⟨g, i, none⟩ x).setCell ⟨g, j, none⟩ y).setCell ⟨g, k, none⟩ z).cell? a0 = some x0 ∧ (((v.setCell ⟨g, i, none⟩ x).setCell ⟨g, j, none⟩ y).setCell ⟨g, k, none⟩ z).cell? a1 = some x1 ∧ KC u (((v.setCell ⟨g, i, none⟩ x).setCell ⟨g, j, none⟩ y).setCell ⟨g, k, none⟩ z) [(a0, x0), (a1, x1)] :=
 kc2 ⟨h.2.2.cells, ((h.2.2.bel.setCell hs _).setCell hs _).setCell hs _⟩
theorem step_clone {w : World} {ops : Array Oper} {o : Oper} {a : Act} {K : Act → World → Prop} {Q : Exit → Act → World → Prop} {E : Prop} (hgd : o.guard = none) (s x : Operand)
  (ho : o.op = .call { callee := .builtin .append, args := #[s, x], argTypes := #[82, 82] }) (base g : Nat) (hs : a.eval s = .slice (some ⟨g, 0, none⟩) 0 0) (hown : w.heap[g]? = some (.cells #[] 112 (0, 0))) (hbg : base ≤ g)
  (S : Nat → Prop) (src : Value) (m : List PB) (hx : a.eval x = src) (hsrc : Pr w S src m) (hb : m.length ≤ 2097154)
  (h : ∀ a' n' c' w', Ow w' base (.slice a' n' c') m → w.grownBy w' (some g) → ((Value.slice a' n' c').ownBlock = some g ∨ (Value.slice a' n' c').ownBlock = some w.heap.size) → (∀ b o, b < w.heap.size → b ≠ g → w'.cell? ⟨b, o, none⟩ = w.cell? ⟨b, o, none⟩) → (∀ b o, b < w.heap.size → b ≠ g → w'.frozen? ⟨b, o, none⟩ = w.frozen? ⟨b, o, none⟩) → K (a.put o.dst (.slice a' n' c')) w') :
  if Region.wanted o (yielded ops a.tmps) = true then Oper.wp Tryz.prog o a w K Q else E := by
 have hw : Region.wanted o (yielded ops a.tmps) = true := by simp [Region.wanted, hgd]
 rw [if_pos hw]
 have hO := ow_at hown hbg
 have hlt : g < w.heap.size := (Array.getElem?_eq_some_iff.1 hown).1
 obtain ⟨i, hi, hz, hsz, hby⟩ := info_of infoPairI
 obtain ⟨v', w', hr, h2, h3, h5⟩ := run_append_row_at (P := Tryz.prog) (w := w) base 82 o.type 112 i _ 2 32 Tryz.underlying82 hi hz hsz hby rfl (by decide) _ 0 [] hO S src m.length (pcs m) hsrc (pcs_length m) (pcs_one m) (by unfold maxLen; omega) (by omega) (by omega)
 have h4 : Ow w' base v' m := by
  unfold Ow
  simpa using h2
 obtain ⟨a', n', c', rfl, _⟩ := h4.shape'
 unfold Oper.wp execOp
 simp only [ho, resolve, invoke, builtin, Sem.run_bind, Sem.run_pure, Result.andThen_ok, List.map_toArray, List.map_cons, List.map_nil, hs, hx, hr]
 exact h a' n' c' w' h4 h3 h5 (fun b o hb hne => World.cell?_of_block (w := w) (h3.block b hb (fun e => hne (by cases e; rfl)))) (fun b o hb hne => World.frozen?_of_block (w := w) (h3.block b hb (fun e => hne (by cases e; rfl))))
theorem meet_set {U W w2 : World} {g sb : Nat} {lf : Bool} {a2 : Option Addr} {n2 c2 : Nat} {ps : List PB} (hb : Below U.heap.size U W) (hW : U.heap.size ≤ W.heap.size) (hO : Ow w2 U.heap.size (.slice a2 n2 c2) ps) (hg : W.grownBy w2 (some g)) (hat : (Value.slice a2 n2 c2).ownBlock = some g ∨ (Value.slice a2 n2 c2).ownBlock = some W.heap.size)
  (hs : W.heap[sb]? = some (.cells #[.bool false, .slice none 0 0, .slice none 0 0] 115 (0, 0))) (hne : sb ≠ g) (h1 : U.heap.size ≤ sb) (h2 : U.heap.size ≤ g) :
  Below U.heap.size U (((w2.setCell ⟨sb, 0, none⟩ (.bool lf)).setCell ⟨sb, 1, none⟩ (.slice a2 n2 c2)).setCell ⟨sb, 2, none⟩ (.slice none 0 0)) ∧ U.heap.size ≤ sb ∧ sb < w2.heap.size ∧ w2.heap.size ≤ (((w2.setCell ⟨sb, 0, none⟩ (.bool lf)).setCell ⟨sb, 1, none⟩ (.slice a2 n2 c2)).setCell ⟨sb, 2, none⟩ (.slice none 0 0)).heap.size ∧
   Bk (((w2.setCell ⟨sb, 0, none⟩ (.bool lf)).setCell ⟨sb, 1, none⟩ (.slice a2 n2 c2)).setCell ⟨sb, 2, none⟩ (.slice none 0 0)) sb 115 [.bool lf, .slice a2 n2 c2, .slice none 0 0] ∧
   Pr (((w2.setCell ⟨sb, 0, none⟩ (.bool lf)).setCell ⟨sb, 1, none⟩ (.slice a2 n2 c2)).setCell ⟨sb, 2, none⟩ (.slice none 0 0)) (fun y => U.heap.size ≤ y ∧ y < w2.heap.size ∧ y ≠ sb) (.slice a2 n2 c2) ps := by
 have hlt : sb < W.heap.size := (Array.getElem?_eq_some_iff.1 hs).1
 have hB : Bk w2 sb 115 [.bool false, .slice none 0 0, .slice none 0 0] := (hg.block sb hlt (fun e => hne (by cases e; rfl))).trans hs
 have hbel : Below U.heap.size U w2 := hb.grown hg hW (fun k e => by cases e; exact h2)
 have hpn : ∀ k, (Value.slice a2 n2 c2).ownBlock = some k → k ≠ sb := by
  rintro k hk rfl
  rcases hat with h | h
  ·rw [hk] at h; cases h; exact hne rfl
  ·rw [hk] at h; cases h; omega
 have o : Only (fun y => y = sb) w2 (((w2.setCell ⟨sb, 0, none⟩ (.bool lf)).setCell ⟨sb, 1, none⟩ (.slice a2 n2 c2)).setCell ⟨sb, 2, none⟩ (.slice none 0 0)) := ((only_set (R := fun y => y = sb) rfl _).trans (only_set (R := fun y => y = sb) rfl _)).trans (only_set (R := fun y => y = sb) rfl _)
 refine ⟨((hbel.setCell h1 _).setCell h1 _).setCell h1 _, h1, hB.lt, by simp [World.setCell], ((hB.set _ _).set _ _).set _ _, ?_⟩
 exact Rw.to (hO.pr (fun k hk h3 h4 => ⟨h3, h4, hpn k hk⟩)) o (fun y hy _ e => hy.2.2 e)
theorem meet_new {U W w2 : World} {g : Nat} {lf : Bool} {a2 : Option Addr} {n2 c2 : Nat} {ps : List PB} (hb : Below U.heap.size U W) (hW : U.heap.size ≤ W.heap.size) (hO : Ow w2 U.heap.size (.slice a2 n2 c2) ps) (hg : W.grownBy w2 (some g)) (h2 : U.heap.size ≤ g) :
  Below U.heap.size U (w2.alloc (.cells #[.bool lf, .slice a2 n2 c2, .slice none 0 0] 115)) ∧ U.heap.size ≤ w2.heap.size ∧ w2.heap.size < w2.heap.size + 1 ∧ w2.heap.size + 1 ≤ (w2.alloc (.cells #[.bool lf, .slice a2 n2 c2, .slice none 0 0] 115)).heap.size ∧
   Bk (w2.alloc (.cells #[.bool lf, .slice a2 n2 c2, .slice none 0 0] 115)) w2.heap.size 115 [.bool lf, .slice a2 n2 c2, .slice none 0 0] ∧
   Pr (w2.alloc (.cells #[.bool lf, .slice a2 n2 c2, .slice none 0 0] 115)) (fun y => U.heap.size ≤ y ∧ y < w2.heap.size + 1 ∧ y ≠ w2.heap.size) (.slice a2 n2 c2) ps := by
 have hbel : Below U.heap.size U w2 := hb.grown hg hW (fun k e => by cases e; exact h2)
 refine ⟨hbel.alloc hbel.size _, hbel.size, by omega, by simp, Bk.new w2 115 [.bool lf, .slice a2 n2 c2, .slice none 0 0], ?_⟩
 exact Rw.below (hO.pr (fun k _ h3 h4 => ⟨h3, by omega, by omega⟩)) (below_new (Below.refl _ _))
theorem wpList_append_sub {w : World} {ops : Array Oper} {rest : List Oper} {o : Oper} {a : Act} {Q : Exit → Act → World → Prop} (hgd : o.guard = none) (s x : Operand)
  (ho : o.op = .call { callee := .builtin .append, args := #[s, x], argTypes := #[113, 113] }) (base : Nat) (v : Value) (n : Nat) (V : List V3) (hs : a.eval s = v) (hown : w.ownsRow base 115 3 v n (ncs V))
  (g : Nat) (l : Bool) (ap : Option Addr) (np cp : Nat) (ak : Option Addr) (nk ck : Nat) (hx : a.eval x = .slice (some ⟨g, 0, none⟩) 1 1) (hB : Bk w g 115 [.bool l, .slice ap np cp, .slice ak nk ck]) (hb : n ≤ 1048576) (hbase : base ≤ w.heap.size)
  (h : ∀ v' w', w'.ownsRow base 115 3 v' (n + 1) (ncs V ++ [.bool l, .slice ap np cp, .slice ak nk ck]) → w.grownBy w' v.ownBlock → (v'.ownBlock = v.ownBlock ∨ v'.ownBlock = some w.heap.size) → wpList Tryz.prog ops Q rest (a.put o.dst v') w') : wpList Tryz.prog ops Q (o :: rest) a w := by
 obtain ⟨i, hi, hz, hsz, hby⟩ := info_of infoSub
 refine wpList_append_row_at hgd s x 113 ho base 115 i _ 3 56 Tryz.underlying113 hi hz hsz hby rfl (by decide) v n (ncs V) hs hown (fun _ => True) _ 1 [.bool l, .slice ap np cp, .slice ak nk ck] hx (hB.rw (Nat.le_refl _) (by omega) (fun h => by omega) _ trivial) rfl
  (by intro u hu; simp at hu; rcases hu with rfl | rfl | rfl <;> rfl) (by unfold maxLen; omega) (by omega) hbase h
theorem rdSL_cons (rd : Int → Option (T × Nat)) (k : Int) (kids : List Int) (nx : Nat) : rdSL rd (k :: kids) nx = if k ≠ (nx : Int) then none else match rd k with
  | none => none
  | some (t, n1) => match rdSL rd kids n1 with
   | none => none
   | some (ts, n2) => some (t :: ts, n2) := rfl
def rdJ (rd : Int → Option (T × Nat)) (ts : List T) (kids : List Int) (nx : Nat) : Option (List T × Nat) := match rdSL rd kids nx with
 | none => none
 | some (ts', n) => some (ts ++ ts', n)
theorem rdJ_nil (rd : Int → Option (T × Nat)) (kids : List Int) (nx : Nat) : rdJ rd [] kids nx = rdSL rd kids nx := by
 rw [rdJ]
 cases rdSL rd kids nx with
 | none => rfl
 | some x => obtain ⟨ts, n⟩ := x; rfl
theorem rdJ_no (rd : Int → Option (T × Nat)) (ts : List T) (k : Int) (kids : List Int) (nx : Nat) (h : k ≠ (nx : Int) ∨ rd k = none) : rdJ rd ts (k :: kids) nx = none := by
 rw [rdJ, rdSL_cons]
 by_cases e : k = (nx : Int)
 ·rw [if_neg (fun h => h e)]
  rcases h with h | h
  ·exact absurd e h
  ·rw [h]
 ·rw [if_pos e]
theorem rdJ_step (rd : Int → Option (T × Nat)) (ts : List T) (k : Int) (kids : List Int) (nx n1 : Nat) (t : T) (e : k = (nx : Int)) (h : rd k = some (t, n1)) : rdJ rd ts (k :: kids) nx = rdJ rd (ts ++ [t]) kids n1 := by
 rw [rdJ, rdSL_cons, if_neg (fun h => h e), h, rdJ]
 simp only
 cases rdSL rd kids n1 with
 | none => rfl
 | some x => obtain ⟨ts', n⟩ := x; simp
theorem rdJ_end (rd : Int → Option (T × Nat)) (ts : List T) (nx : Nat) : rdJ rd ts [] nx = some (ts, nx) := by simp [rdJ, rdSL]
open Go.RowKit
def OwN (w : World) (p : V3) (x : NB) : Prop := w.ownsRow 0 112 2 p.1 x.ps.length (pcs x.ps) ∧ w.ownsRow 0 9 1 p.2.1 x.keys.length (x.keys.map Value.string) ∧ w.ownsRow 0 3 1 p.2.2 x.kids.length (x.kids.map (Value.int .i64))
def bl (p : V3) (y : Nat) : Prop := p.1.ownBlock = some y ∨ p.2.1.ownBlock = some y ∨ p.2.2.ownBlock = some y
def ap3 (p : V3) : Prop := ∀ y, (p.1.ownBlock = some y → p.2.1.ownBlock ≠ some y ∧ p.2.2.ownBlock ≠ some y) ∧ (p.2.1.ownBlock = some y → p.2.2.ownBlock ≠ some y)
theorem OwN.to {w w' : World} {R : Nat → Prop} {p : V3} {x : NB} (h : OwN w p x) (ho : Only R w w') (hR : ∀ y, bl p y → ¬ R y) : OwN w' p x :=
 ⟨own_kept h.1 ho (fun y e => hR y (.inl e)), own_kept h.2.1 ho (fun y e => hR y (.inr (.inl e))), own_kept h.2.2 ho (fun y e => hR y (.inr (.inr e)))⟩
theorem OwN.lt {w : World} {p : V3} {x : NB} (h : OwN w p x) {y : Nat} (hy : bl p y) : y < w.heap.size := by
 rcases hy with e | e | e
 ·exact (World.ownsRow.lt h.1 y e).2
 ·exact (World.ownsRow.lt h.2.1 y e).2
 ·exact (World.ownsRow.lt h.2.2 y e).2
theorem own_lower {w : World} {base : Nat} {e : TypeId} {size n : Nat} {v : Value} {xs : List Value} (h : w.ownsRow base e size v n xs) : w.ownsRow 0 e size v n xs := by
 refine ⟨h.1, h.2.imp id ?_⟩
 rintro ⟨g, cap, cur, h1, h2, h3⟩
 exact ⟨g, cap, cur, h1, Nat.zero_le _, h3⟩
theorem own_ge {w : World} {base : Nat} {e : TypeId} {size n : Nat} {v : Value} {xs : List Value} (h : w.ownsRow base e size v n xs) (k : Nat) (hk : v.ownBlock = some k) : base ≤ k := by
 rcases h.2 with ⟨rfl, _⟩ | ⟨g, cap, cur, rfl, hb, _⟩
 ·cases hk
 ·cases hk; exact hb
def N1K (w : World) (F : Nat → Prop) (p : V3) (x : NB) : Prop := N1 w F p x ∧ OwN w p x ∧ ap3 p ∧ ∀ y, bl p y → F y
theorem N1K.to {w w' : World} {S R : Nat → Prop} {p : V3} {x : NB} (h : N1K w S p x) (ho : Only R w w') (hd : ∀ b, S b → b < w.heap.size → ¬ R b) : N1K w' S p x :=
 ⟨h.1.to ho hd, h.2.1.to ho (fun y hy => hd y (h.2.2.2 y hy) (h.2.1.lt hy)), h.2.2⟩
theorem N1K.mono {w : World} {S R : Nat → Prop} {p : V3} {x : NB} (h : N1K w S p x) (hd : ∀ b, S b → b < w.heap.size → R b) : N1K w R p x :=
 ⟨h.1.mono hd, h.2.1, h.2.2.1, fun y hy => hd y (h.2.2.2 y hy) (h.2.1.lt hy)⟩
theorem OwN.n1 {w : World} {S : Nat → Prop} {p : V3} {x : NB} (h : OwN w p x) (hS : ∀ y, bl p y → S y) : N1 w S p x :=
 ⟨rw_own h.1 (fun k e _ _ => hS k (.inl e)), rw_own h.2.1 (fun k e _ _ => hS k (.inr (.inl e))), rw_own h.2.2 (fun k e _ _ => hS k (.inr (.inr e)))⟩
theorem n1K_nil (w : World) (F : Nat → Prop) : N1K w F (.slice none 0 0, .slice none 0 0, .slice none 0 0) ⟨[], [], []⟩ :=
 ⟨⟨rw_nil _ _, rw_nil _ _, rw_nil _ _⟩, ⟨World.ownsRow_nil _ _ _ _, World.ownsRow_nil _ _ _ _, World.ownsRow_nil _ _ _ _⟩, fun y => ⟨fun e => by (cases e), fun e => by (cases e)⟩, fun y hy => by rcases hy with e | e | e <;> cases e⟩
def apartV (V : List V3) (n : Nat) : Prop := ∀ i j, i < n → j < n → i ≠ j → ∀ y, bl (vAt V i) y → ¬ bl (vAt V j) y
def NO (w : World) (F : Nat → Prop) (v : Value) (ns : List NB) : Prop :=
 ∃ V : List V3, V.length = ns.length ∧ w.ownsRow 0 85 3 v ns.length (ncs V) ∧ (∀ i, i < ns.length → N1K w F (vAt V i) (nAt ns i)) ∧ (∀ y, F y → y < w.heap.size ∧ v.ownBlock ≠ some y) ∧ apartV V ns.length
theorem NO.to {w w' : World} {R F : Nat → Prop} {v : Value} {ns : List NB} (h : NO w F v ns) (ho : Only R w w') (hv : ∀ y, v.ownBlock = some y → ¬ R y) (hF : ∀ y, F y → ¬ R y) : NO w' F v ns := by
 obtain ⟨V, h1, h2, h3, h4, h5⟩ := h
 exact ⟨V, h1, own_kept h2 ho hv, fun i hi => (h3 i hi).to ho (fun y hy _ => hF y hy), fun y hy => ⟨Nat.lt_of_lt_of_le (h4 y hy).1 ho.size, (h4 y hy).2⟩, h5⟩
theorem NO.kept {w w' : World} {F : Nat → Prop} {v : Value} {ns : List NB} (h : NO w F v ns) (hb : Below w.heap.size w w') : NO w' F v ns := h.to (only_of_below hb (fun _ => False)) (fun _ _ h => h) (fun _ _ h => h)
theorem NO.shape {w : World} {F : Nat → Prop} {v : Value} {ns : List NB} (h : NO w F v ns) : ∃ a n c, v = .slice a n c ∧ Hid (n = ns.length) := by
 obtain ⟨V, h1, h2, h3, h4⟩ := h
 obtain ⟨a, c, rfl⟩ := own_shape h2
 exact ⟨a, _, c, rfl, rfl⟩
theorem NO.nr {w : World} {F S : Nat → Prop} {v : Value} {ns : List NB} (h : NO w F v ns) (hS : ∀ y, y < w.heap.size → S y) : Nr w S v ns := by
 obtain ⟨V, h1, h2, h3, h4⟩ := h
 exact ⟨V, h1, rw_own h2 (fun y _ _ hy => hS y hy), fun i hi => (h3 i hi).1.mono (fun y _ hy => hS y hy)⟩
theorem no_nil (w : World) : NO w (fun _ => False) (.slice none 0 0) [] := ⟨[], rfl, World.ownsRow_nil _ _ _ _, fun i hi => by simp at hi, fun _ h => h.elim, fun i j hi => absurd hi (Nat.not_lt_zero _)⟩
theorem NO.lt {w : World} {F : Nat → Prop} {v : Value} {ns : List NB} (h : NO w F v ns) : ∀ y, v.ownBlock = some y → y < w.heap.size := by
 obtain ⟨V, h1, h2, h3, h4⟩ := h
 exact fun y hy => (World.ownsRow.lt h2 y hy).2
theorem nAt_append_left {ns ms : List NB} {i : Nat} (h : i < ns.length) : nAt (ns ++ ms) i = nAt ns i := by simp [nAt, List.getElem?_append_left h]
theorem nAt_append_at (ns : List NB) (x : NB) (ms : List NB) : nAt (ns ++ x :: ms) ns.length = x := by simp [nAt]
theorem vAt_append_left {V W : List V3} {i : Nat} (h : i < V.length) : vAt (V ++ W) i = vAt V i := by simp [vAt, List.getElem?_append_left h]
theorem vAt_append_at (V : List V3) (x : V3) : vAt (V ++ [x]) V.length = x := by simp [vAt]
theorem NO.push {u w2 : World} {F : Nat → Prop} {v v' : Value} {ns : List NB} (h : NO u F v ns) (x : NB) (p : V3) (hx : N1K u (fun _ => False) p x) (ho : ∀ V : List V3, V.length = ns.length → u.ownsRow 0 85 3 v ns.length (ncs V) → w2.ownsRow 0 85 3 v' (ns.length + 1) (ncs V ++ [p.1, p.2.1, p.2.2])) (hg : u.grownBy w2 v.ownBlock) (ha : v'.ownBlock = v.ownBlock ∨ v'.ownBlock = some u.heap.size) :
  NO w2 F v' (ns ++ [x]) := by
 obtain ⟨V, h1, h2, h3, h4, h5⟩ := h
 have o : Only (fun y => v.ownBlock = some y) u w2 := only_of_grown hg (fun k e => e)
 refine ⟨V ++ [p], by simp [h1], ?_, fun i hi => ?_, fun y hy => ⟨Nat.lt_of_lt_of_le (h4 y hy).1 hg.size, ?_⟩, fun i j hi hj hij y hy hz => ?_⟩
 ·rw [ncs_append, List.length_append]
  exact ho V h1 h2
 ·simp at hi
  by_cases e : i < ns.length
  ·rw [vAt_append_left (by omega), nAt_append_left e]
   exact (h3 i e).to o (fun y hy _ hv => (h4 y hy).2 hv)
  ·obtain rfl : i = ns.length := by omega
   rw [nAt_append_at, ← h1, vAt_append_at]
   exact (hx.to o (fun y hy => hy.elim)).mono (fun y hy => hy.elim)
 ·rcases ha with ha | ha
  ·rw [ha]; exact (h4 y hy).2
  ·rw [ha]; intro e; have := (h4 y hy).1; cases e; omega
 ·have hat : ∀ i, i < (ns ++ [x]).length → (i < ns.length ∧ vAt (V ++ [p]) i = vAt V i) ∨ vAt (V ++ [p]) i = p := by
   intro i hi
   simp at hi
   by_cases e : i < ns.length
   ·exact .inl ⟨e, vAt_append_left (by omega)⟩
   ·obtain rfl : i = ns.length := by omega
    exact .inr (by rw [← h1, vAt_append_at])
  rcases hat i hi with ⟨e, e1⟩ | e1
  ·rcases hat j hj with ⟨d, d1⟩ | d1
   ·rw [e1] at hy; rw [d1] at hz; exact h5 i j e d hij y hy hz
   ·rw [d1] at hz; exact hx.2.2.2 y hz
  ·rw [e1] at hy; exact hx.2.2.2 y hy
theorem NO.put {w : World} {F G : Nat → Prop} {v : Value} {ms l : List NB} {x z : NB} {g n c : Nat} (hv : v = .slice (some ⟨g, 0, none⟩) n c) (h' : NO w G v (ms ++ z :: l)) (hGF : ∀ y, G y → F y) (hFF : ∀ y, F y → y < w.heap.size ∧ v.ownBlock ≠ some y) (p : V3) (hx : N1K w F p x) (hn : ∀ y, bl p y → ¬ G y) :
  NO (((w.setCell ⟨g, ms.length * 3, none⟩ p.1).setCell ⟨g, ms.length * 3 + 1, none⟩ p.2.1).setCell ⟨g, ms.length * 3 + 2, none⟩ p.2.2) F v (ms ++ x :: l) := by
 subst hv
 obtain ⟨V, h1, h2, h3', _, h5⟩ := h'
 have h3 := fun i hi => (h3' i hi).mono (R := F) (fun y hy _ => hGF y hy)
 have h4 := hFF
 have hgb : (Value.slice (some ⟨g, 0, none⟩) n c).ownBlock = some g := rfl
 have o : Only (fun y => y = g) w (((w.setCell ⟨g, ms.length * 3, none⟩ p.1).setCell ⟨g, ms.length * 3 + 1, none⟩ p.2.1).setCell ⟨g, ms.length * 3 + 2, none⟩ p.2.2) := ((only_set (R := fun y => y = g) rfl _).trans (only_set (R := fun y => y = g) rfl _)).trans (only_set (R := fun y => y = g) rfl _)
 have hF : ∀ y, F y → ¬ y = g := fun y hy e => (h4 y hy).2 (by rw [hgb, e])
 have hl : ms.length < (ms ++ z :: l).length := by simp
 have hl2 : (ms ++ x :: l).length = (ms ++ z :: l).length := by simp
 refine ⟨V.set ms.length p, by rw [List.length_set, h1, hl2], ?_, fun i hi => ?_, fun y hy => ⟨Nat.lt_of_lt_of_le (h4 y hy).1 o.size, (h4 y hy).2⟩, fun i j hi hj hij y hy hz => ?_⟩
 ·rw [ncs_set _ _ _ (by omega), hl2]
  obtain ⟨k1, k2⟩ := h2
  rcases k2 with ⟨k2, _⟩ | ⟨g', cap, cur, e, k3, k4, k5, k6, k7, k8⟩
  ·cases k2
  ·cases e
   refine ⟨by simpa using k1, .inr ⟨g, c, ((cur.setIfInBounds (ms.length * 3) p.1).setIfInBounds (ms.length * 3 + 1) p.2.1).setIfInBounds (ms.length * 3 + 2) p.2.2, rfl, k3, ?_, k5, k6, by simpa using k7, ?_⟩⟩
   ·simp [World.setCell, Array.getElem?_modify, k4]
   ·rw [← k8]
    simp only [Array.toList_setIfInBounds, List.take_set]
 ·by_cases e : i = ms.length
  ·subst e
   rw [vAt_set _ _ _ (by omega), nAt_append_at]
   exact hx.to o (fun y hy _ => hF y hy)
  ·rw [vAt_other _ _ _ _ e]
   have : nAt (ms ++ x :: l) i = nAt (ms ++ z :: l) i := by
    by_cases hi2 : i < ms.length
    ·rw [nAt_append_left hi2, nAt_append_left hi2]
    ·obtain ⟨j, rfl⟩ : ∃ j, i = ms.length + 1 + j := ⟨i - ms.length - 1, by omega⟩
     simp only [nAt]
     rw [List.getElem?_append_right (by omega), List.getElem?_append_right (by omega), show ms.length + 1 + j - ms.length = j + 1 by omega]
     rfl
   rw [this]
   exact (h3 i (by omega)).to o (fun y hy _ => hF y hy)
 ·rw [hl2] at hi hj
  by_cases e : i = ms.length
  ·subst e
   rw [vAt_set _ _ _ (by omega)] at hy
   rw [vAt_other _ _ _ _ (Ne.symm hij)] at hz
   exact hn y hy ((h3' j hj).2.2.2 y hz)
  ·rw [vAt_other _ _ _ _ e] at hy
   by_cases d : j = ms.length
   ·subst d
    rw [vAt_set _ _ _ (by omega)] at hz
    exact hn y hz ((h3' i hi).2.2.2 y hy)
   ·rw [vAt_other _ _ _ _ d] at hz
    exact h5 i j hi hj hij y hy hz
structure LyI (w wr : World) (F : Nat → Prop) (v vv q0 q1 q2 : Value) (nb : Nat) (kx ki : Value) (Fk : Nat → Prop) (L : List NB) (keys : List ByteArray) (kids : List Int) : Prop where
 fw : ∀ y, F y → y < w.heap.size
 vw : ∀ y, v.ownBlock = some y → y < w.heap.size
 lo : w.heap.size < nb
 nodes : NO wr Fk vv L
 par : Bk wr w.heap.size 115 [q0, q1, q2]
 nod : Bk wr nb 85 [.slice none 0 0, kx, ki]
 rx : wr.ownsRow 0 9 1 kx keys.length (keys.map Value.string)
 ri : wr.ownsRow 0 3 1 ki kids.length (kids.map (Value.int .i64))
 fk : ∀ y, Fk y → (F y ∨ w.heap.size < y) ∧ y ≠ nb ∧ kx.ownBlock ≠ some y ∧ ki.ownBlock ≠ some y
 ff : ∀ y, F y → Fk y
 vb : ∀ y, vv.ownBlock = some y → (v.ownBlock = some y ∨ w.heap.size < y) ∧ y ≠ nb ∧ kx.ownBlock ≠ some y ∧ ki.ownBlock ≠ some y
 xb : ∀ y, kx.ownBlock = some y → w.heap.size < y ∧ y ≠ nb ∧ ki.ownBlock ≠ some y
 ib : ∀ y, ki.ownBlock = some y → w.heap.size < y ∧ y ≠ nb
 only : Only (fun y => v.ownBlock = some y) w wr
theorem LyI.keep {w wr w1 : World} {F : Nat → Prop} {v vv q0 q1 q2 : Value} {nb : Nat} {kx ki : Value} {Fk : Nat → Prop} {L : List NB} {keys : List ByteArray} {kids : List Int} (h : LyI w wr F v vv q0 q1 q2 nb kx ki Fk L keys kids) (hb : Below wr.heap.size wr w1) :
  LyI w w1 F v vv q0 q1 q2 nb kx ki Fk L keys kids :=
 { h with nodes := h.nodes.kept hb, par := h.par.below hb, nod := h.nod.below hb, rx := own_kept h.rx (only_of_below hb (fun _ => False)) (fun _ _ h => h), ri := own_kept h.ri (only_of_below hb (fun _ => False)) (fun _ _ h => h), only := h.only.trans (only_of_below hb _) }
theorem LyI.addKid {w u w2 : World} {F : Nat → Prop} {v vv q0 q1 q2 : Value} {nb : Nat} {kx ki ki' : Value} {Fk : Nat → Prop} {L : List NB} {keys : List ByteArray} {kids : List Int} (h : LyI w u F v vv q0 q1 q2 nb kx ki Fk L keys kids) (z : Int)
  (ho : w2.ownsRow 0 3 1 ki' (kids.length + 1) (kids.map (Value.int .i64) ++ [.int .i64 z])) (hg : u.grownBy w2 ki.ownBlock) (ha : ki'.ownBlock = ki.ownBlock ∨ ki'.ownBlock = some u.heap.size) :
  LyI w (w2.setCell ⟨nb, 2, none⟩ ki') F v vv q0 q1 q2 nb kx ki' Fk L keys (kids ++ [z]) := by
 have hlo := h.lo
 have hnb := h.nod.lt
 have hu := h.only.size
 have o1 : Only (fun y => ki.ownBlock = some y) u w2 := only_of_grown hg (fun k e => e)
 have o2 : Only (fun y => y = nb) w2 (w2.setCell ⟨nb, 2, none⟩ ki') := only_set (R := fun y => y = nb) rfl _
 have o3 : Only (fun y => ki.ownBlock = some y ∨ y = nb) u (w2.setCell ⟨nb, 2, none⟩ ki') := (o1.mono (fun _ _ e => .inl e)).then o2 (fun _ _ e => .inr e)
 have new : ∀ y, y < u.heap.size → ki.ownBlock ≠ some y → ki'.ownBlock ≠ some y := by
  intro y hy hne e
  rcases ha with ha | ha
  ·exact hne (ha ▸ e)
  ·rw [ha] at e; cases e; omega
 have hki : ∀ y, ki'.ownBlock = some y → w.heap.size < y ∧ y ≠ nb := by
  intro y e
  rcases ha with ha | ha
  ·exact h.ib y (ha ▸ e)
  ·rw [ha] at e; cases e; omega
 refine ⟨h.fw, h.vw, h.lo, h.nodes.to o3 ?_ ?_, h.par.to o3 ?_, ?_, ?_, ?_, ?_, h.ff, ?_, ?_, hki, ?_⟩
 ·rintro y hy (e | e)
  ·exact (h.vb y hy).2.2.2 e
  ·exact (h.vb y hy).2.1 e
 ·rintro y hy (e | e)
  ·exact (h.fk y hy).2.2.2 e
  ·exact (h.fk y hy).2.1 e
 ·rintro (e | e)
  ·have := h.ib _ e; omega
  ·omega
 ·have k1 := h.nod.to o1 (fun e => (h.ib nb e).2 rfl)
  exact k1.set 2 ki'
 ·exact own_kept h.rx o3 (by
   rintro y hy (e | e)
   ·exact (h.xb y hy).2.2 e
   ·exact (h.xb y hy).2.1 e)
 ·have := own_kept ho o2 (fun y hy e => (hki y hy).2 e)
  simpa using this
 ·intro y hy
  obtain ⟨a1, a2, a3, a4⟩ := h.fk y hy
  obtain ⟨V, _, _, _, n4, _⟩ := h.nodes
  exact ⟨a1, a2, a3, new y (n4 y hy).1 a4⟩
 ·intro y hy
  obtain ⟨a1, a2, a3, a4⟩ := h.vb y hy
  exact ⟨a1, a2, a3, new y (h.nodes.lt y hy) a4⟩
 ·intro y hy
  obtain ⟨a1, a2, a3⟩ := h.xb y hy
  exact ⟨a1, a2, new y (World.ownsRow.lt h.rx y hy).2 a3⟩
 ·refine h.only.then o3 (fun y hy e => ?_)
  rcases e with e | e
  ·have := h.ib y e; omega
  ·omega
theorem LyI.addKey {w u w2 : World} {F : Nat → Prop} {v vv q0 q1 q2 : Value} {nb : Nat} {kx ki kx' : Value} {Fk : Nat → Prop} {L : List NB} {keys : List ByteArray} {kids : List Int} (h : LyI w u F v vv q0 q1 q2 nb kx ki Fk L keys kids) (z : ByteArray)
  (ho : w2.ownsRow 0 9 1 kx' (keys.length + 1) (keys.map Value.string ++ [.string z])) (hg : u.grownBy w2 kx.ownBlock) (ha : kx'.ownBlock = kx.ownBlock ∨ kx'.ownBlock = some u.heap.size) :
  LyI w (w2.setCell ⟨nb, 1, none⟩ kx') F v vv q0 q1 q2 nb kx' ki Fk L (keys ++ [z]) kids := by
 have hlo := h.lo
 have hnb := h.nod.lt
 have hu := h.only.size
 have o1 : Only (fun y => kx.ownBlock = some y) u w2 := only_of_grown hg (fun k e => e)
 have o2 : Only (fun y => y = nb) w2 (w2.setCell ⟨nb, 1, none⟩ kx') := only_set (R := fun y => y = nb) rfl _
 have o3 : Only (fun y => kx.ownBlock = some y ∨ y = nb) u (w2.setCell ⟨nb, 1, none⟩ kx') := (o1.mono (fun _ _ e => .inl e)).then o2 (fun _ _ e => .inr e)
 have new : ∀ y, y < u.heap.size → kx.ownBlock ≠ some y → kx'.ownBlock ≠ some y := by
  intro y hy hne e
  rcases ha with ha | ha
  ·exact hne (ha ▸ e)
  ·rw [ha] at e; cases e; omega
 have hkx : ∀ y, kx'.ownBlock = some y → w.heap.size < y ∧ y ≠ nb ∧ ki.ownBlock ≠ some y := by
  intro y e
  rcases ha with ha | ha
  ·exact h.xb y (ha ▸ e)
  ·rw [ha] at e; cases e
   exact ⟨by omega, by omega, fun e => by have := (World.ownsRow.lt h.ri _ e).2; omega⟩
 refine ⟨h.fw, h.vw, h.lo, h.nodes.to o3 ?_ ?_, h.par.to o3 ?_, ?_, ?_, ?_, ?_, h.ff, ?_, hkx, h.ib, ?_⟩
 ·rintro y hy (e | e)
  ·exact (h.vb y hy).2.2.1 e
  ·exact (h.vb y hy).2.1 e
 ·rintro y hy (e | e)
  ·exact (h.fk y hy).2.2.1 e
  ·exact (h.fk y hy).2.1 e
 ·rintro (e | e)
  ·have := h.xb _ e; omega
  ·omega
 ·have k1 := h.nod.to o1 (fun e => (h.xb nb e).2.1 rfl)
  exact k1.set 1 kx'
 ·have := own_kept ho o2 (fun y hy e => (hkx y hy).2.1 e)
  simpa using this
 ·exact own_kept h.ri o3 (by
   rintro y hy (e | e)
   ·exact (h.xb y e).2.2 hy
   ·exact (h.ib y hy).2 e)
 ·intro y hy
  obtain ⟨a1, a2, a3, a4⟩ := h.fk y hy
  obtain ⟨V, _, _, _, n4, _⟩ := h.nodes
  exact ⟨a1, a2, new y (n4 y hy).1 a3, a4⟩
 ·intro y hy
  obtain ⟨a1, a2, a3, a4⟩ := h.vb y hy
  exact ⟨a1, a2, new y (h.nodes.lt y hy) a3, a4⟩
 ·refine h.only.then o3 (fun y hy e => ?_)
  rcases e with e | e
  ·have := h.xb y e; omega
  ·omega
theorem LyI.sub {w wr w1 : World} {F : Nat → Prop} {v vv v1 q0 q1 q2 : Value} {nb : Nat} {kx ki : Value} {Fk : Nat → Prop} {L M : List NB} {keys : List ByteArray} {kids : List Int} (h : LyI w wr F v vv q0 q1 q2 nb kx ki Fk L keys kids)
  (hn : NO w1 (fun y => Fk y ∨ (wr.heap.size ≤ y ∧ y < w1.heap.size ∧ v1.ownBlock ≠ some y)) v1 M) (ho : Only (fun y => vv.ownBlock = some y) wr w1) (hv : ∀ y, v1.ownBlock = some y → vv.ownBlock = some y ∨ wr.heap.size ≤ y) :
  LyI w w1 F v v1 q0 q1 q2 nb kx ki (fun y => Fk y ∨ (wr.heap.size ≤ y ∧ y < w1.heap.size ∧ v1.ownBlock ≠ some y)) M keys kids := by
 have hlo := h.lo
 have hnb := h.nod.lt
 have hp := h.par.lt
 have lx := fun y e => (World.ownsRow.lt h.rx y e).2
 have li := fun y e => (World.ownsRow.lt h.ri y e).2
 have nx : ∀ y, wr.heap.size ≤ y → y ≠ nb ∧ kx.ownBlock ≠ some y ∧ ki.ownBlock ≠ some y := by
  intro y hy
  refine ⟨by omega, fun e => ?_, fun e => ?_⟩
  ·have := lx y e; omega
  ·have := li y e; omega
 refine ⟨h.fw, h.vw, h.lo, hn, h.par.to ho (fun e => ?_), h.nod.to ho (fun e => (h.vb nb e).2.1 rfl), own_kept h.rx ho (fun y hy e => (h.vb y e).2.2.1 hy), own_kept h.ri ho (fun y hy e => (h.vb y e).2.2.2 hy), ?_, fun y hy => .inl (h.ff y hy), ?_, h.xb, h.ib, ?_⟩
 ·rcases (h.vb _ e).1 with e | e
  ·have := h.vw _ e; omega
  ·omega
 ·rintro y (hy | ⟨hy, _, _⟩)
  ·exact h.fk y hy
  ·exact ⟨.inr (by omega), nx y hy⟩
 ·intro y hy
  rcases hv y hy with e | e
  ·exact h.vb y e
  ·exact ⟨.inr (by omega), nx y e⟩
 ·refine h.only.then ho (fun y hy e => ?_)
  rcases (h.vb y e).1 with e | e
  ·exact e
  ·omega
open Go.RowKit
theorem wpList_append_zero {w : World} {ops : Array Oper} {rest : List Oper} {o : Oper} {a : Act} {Q : Exit → Act → World → Prop} (hgd : o.guard = none) (s x : Operand)
  (ho : o.op = .call { callee := .builtin .append, args := #[s, x], argTypes := #[31, 31] }) (F : Nat → Prop) (v : Value) (ns : List NB) (hs : a.eval s = v) (hown : NO w F v ns)
  (g : Nat) (hx : a.eval x = .slice (some ⟨g, 0, none⟩) 1 1) (hB : Bk w g 85 [.slice none 0 0, .slice none 0 0, .slice none 0 0]) (hb : ns.length ≤ 1048576)
  (h : ∀ g' n' c' w', NO w' F (.slice (some ⟨g', 0, none⟩) n' c') (ns ++ [⟨[], [], []⟩]) → Hid (n' = ns.length + 1) → w.grownBy w' v.ownBlock → ((Value.slice (some ⟨g', 0, none⟩) n' c').ownBlock = v.ownBlock ∨ (Value.slice (some ⟨g', 0, none⟩) n' c').ownBlock = some w.heap.size) → wpList Tryz.prog ops Q rest (a.put o.dst (.slice (some ⟨g', 0, none⟩) n' c')) w') : wpList Tryz.prog ops Q (o :: rest) a w := by
 obtain ⟨i, hi, hz, hsz, hby⟩ := info_of infoNodeI
 have hown' := hown
 obtain ⟨V, h1, h2, h3, h4⟩ := hown'
 refine wpList_append_row_at hgd s x 31 ho 0 85 i _ 3 72 Tryz.underlying31 hi hz hsz hby rfl (by decide) v ns.length (ncs V) hs h2 (fun _ => True) _ 1 [.slice none 0 0, .slice none 0 0, .slice none 0 0] hx (hB.rw (Nat.le_refl _) (by omega) (fun h => by omega) _ trivial) rfl
  (by intro u hu; simp at hu; subst hu; rfl) (by unfold maxLen; omega) (by omega) (Nat.zero_le _) ?_
 intro v' w' k1 k2 k3
 rcases k1.2 with ⟨_, e⟩ | ⟨g', cap, cur, e, _⟩
 ·omega
 ·subst e
  refine h g' _ cap w' ?_ rfl k2 k3
  have hN0 : NO w F v ns := hown
  refine hN0.push ⟨[], [], []⟩ (.slice none 0 0, .slice none 0 0, .slice none 0 0) (n1K_nil _ _) (fun V' e1 e2 => ?_) k2 k3
  have hV : ncs V' = ncs V := by
   rcases e2.2 with ⟨rfl, e3⟩ | ⟨g1, c1, cur1, rfl, _, e5, _, _, _, e6⟩
   ·rw [List.eq_nil_of_length_eq_zero (by omega : V'.length = 0), List.eq_nil_of_length_eq_zero (by omega : V.length = 0)]
   ·rcases h2.2 with ⟨e7, _⟩ | ⟨g2, c2, cur2, e7, _, e8, _, _, _, e9⟩
    ·cases e7
    ·cases e7
     rw [e5] at e8
     cases e8
     rw [← e6, ← e9]
  rw [hV]
  exact k1
theorem NO.rowAt {w : World} {F : Nat → Prop} {a : Option Addr} {n c : Nat} {ns : List NB} (h : NO w F (.slice a n c) ns) (hp : 0 < ns.length) : ∃ g, a = some ⟨g, 0, none⟩ ∧ Hid (n = ns.length) := by
 obtain ⟨V, h1, h2, h3, h4⟩ := h
 rcases h2.2 with ⟨e, e2⟩ | ⟨g, cap, cur, e, _⟩
 ·omega
 ·cases e
  exact ⟨g, rfl, rfl⟩
theorem places_length (ks : List T) : ∀ a, (places a ks).length = ks.length := by
 induction ks with
 | nil => intro a; rfl
 | cons k ks ih => intro a; simp [places, ih]
theorem wpList_append_int1 {w : World} {ops : Array Oper} {rest : List Oper} {o : Oper} {a : Act} {Q : Exit → Act → World → Prop} (hgd : o.guard = none) (s x : Operand)
  (ho : o.op = .call { callee := .builtin .append, args := #[s, x], argTypes := #[34, 34] }) (v : Value) (n : Nat) (xs : List Value) (hs : a.eval s = v) (hown : w.ownsRow 0 3 1 v n xs)
  (g : Nat) (z : Int) (hx : a.eval x = .slice (some ⟨g, 0, none⟩) 1 1) (hB : Bk w g 3 [.int .i64 z]) (hb : n ≤ 1048576)
  (h : ∀ a' n' c' w', w'.ownsRow 0 3 1 (.slice a' n' c') (n + 1) (xs ++ [.int .i64 z]) → w.grownBy w' v.ownBlock → ((Value.slice a' n' c').ownBlock = v.ownBlock ∨ (Value.slice a' n' c').ownBlock = some w.heap.size) → wpList Tryz.prog ops Q rest (a.put o.dst (.slice a' n' c')) w') : wpList Tryz.prog ops Q (o :: rest) a w := by
 obtain ⟨i, hi, hz, hsz, hby⟩ := info_of infoInt'
 refine wpList_append_row_at hgd s x 34 ho 0 3 i _ 1 8 Tryz.underlying34 hi hz hsz hby rfl (by decide) v n xs hs hown (fun _ => True) _ 1 [.int .i64 z] hx (hB.rw (Nat.le_refl _) (by omega) (fun h => by omega) _ trivial) rfl
  (by intro u hu; simp at hu; subst hu; rfl) (by unfold maxLen; omega) (by omega) (Nat.zero_le _) ?_
 intro v' w' k1 k2 k3
 obtain ⟨a', c', rfl⟩ := own_shape k1
 exact h a' _ c' w' k1 k2 k3
theorem step_append_str1 {w : World} {ops : Array Oper} {o : Oper} {a : Act} {K : Act → World → Prop} {Q : Exit → Act → World → Prop} {E : Prop} (hgd : o.guard = none) (s x : Operand)
  (ho : o.op = .call { callee := .builtin .append, args := #[s, x], argTypes := #[83, 83] }) (v : Value) (n : Nat) (xs : List Value) (hs : a.eval s = v) (hown : w.ownsRow 0 9 1 v n xs)
  (g : Nat) (z : ByteArray) (hx : a.eval x = .slice (some ⟨g, 0, none⟩) 1 1) (hB : w.cell? ⟨g, 0, none⟩ = some (.string z)) (hb : n ≤ 1048576) (b0 o0 : Nat) (x0 : Value) (hc0 : w.cell? ⟨b0, o0, none⟩ = some x0) (hf0 : w.frozen? ⟨b0, o0, none⟩ = false) (hne : v.ownBlock ≠ some b0)
  (h : ∀ a' n' c' w', w'.ownsRow 0 9 1 (.slice a' n' c') (n + 1) (xs ++ [.string z]) → w.grownBy w' v.ownBlock → ((Value.slice a' n' c').ownBlock = v.ownBlock ∨ (Value.slice a' n' c').ownBlock = some w.heap.size) → w'.cell? ⟨b0, o0, none⟩ = some x0 → w'.frozen? ⟨b0, o0, none⟩ = false → K (a.put o.dst (.slice a' n' c')) w') :
  if Region.wanted o (yielded ops a.tmps) = true then Oper.wp Tryz.prog o a w K Q else E := by
 have hw : Region.wanted o (yielded ops a.tmps) = true := by simp [Region.wanted, hgd]
 rw [if_pos hw]
 obtain ⟨i, hi, hz, hsz, hby⟩ := info_of infoStr'
 have hsrc : Rw w (fun _ => True) (.slice (some ⟨g, 0, none⟩) 1 1) 1 [.string z] := by
  refine ⟨_, 1, rfl, Nat.le_refl _, by omega, fun h => by omega, fun h => (by cases h), fun _ => ⟨g, 0, rfl, block_lt hB, trivial, fun j u hu => ?_⟩⟩
  cases j with
  | zero => simp at hu; subst hu; simpa using hB
  | succ j => simp at hu
 obtain ⟨v', w', hr, h2, h3, h5⟩ := run_append_row_at (P := Tryz.prog) (w := w) 0 83 o.type 9 i _ 1 16 Tryz.underlying83 hi hz hsz hby rfl (by decide) v n xs hown (fun _ => True) _ 1 [.string z] hsrc rfl (by intro u hu; simp at hu; subst hu; rfl) (by unfold maxLen; omega) (by omega) (Nat.zero_le _)
 obtain ⟨a', c', rfl⟩ := own_shape h2
 have hbl := h3.block b0 (block_lt hc0) (fun e => hne e.symm)
 unfold Oper.wp execOp
 simp only [ho, resolve, invoke, builtin, Sem.run_bind, Sem.run_pure, Result.andThen_ok, List.map_toArray, List.map_cons, List.map_nil, hs, hx, hr]
 exact h a' _ c' w' h2 h3 h5 ((World.cell?_of_block (w := w) (a := ⟨b0, o0, none⟩) hbl).trans hc0) ((World.frozen?_of_block (w := w) (a := ⟨b0, o0, none⟩) hbl).trans hf0)
structure KO (R : Nat → Prop) (u v : World) (cs : List (Addr × Value)) : Prop where
 cells : ∀ p ∈ cs, u.cell? p.1 = some p.2 ∧ ¬ R p.1.block
 only : Only R u v
theorem KO.at {R : Nat → Prop} {u v : World} {cs : List (Addr × Value)} (h : KO R u v cs) {a : Addr} {x : Value} (hp : (a, x) ∈ cs) : v.cell? a = some x := by
 obtain ⟨hc, hr⟩ := h.cells (a, x) hp
 exact (World.cell?_of_block (w := u) (h.only.block a.block (block_lt hc) hr)).trans hc
theorem ko4 {R : Nat → Prop} {u v : World} {a0 a1 a2 a3 : Addr} {x0 x1 x2 x3 : Value} (h : KO R u v [(a0, x0), (a1, x1), (a2, x2), (a3, x3)]) : v.cell? a0 = some x0 ∧ v.cell? a1 = some x1 ∧ v.cell? a2 = some x2 ∧ v.cell? a3 = some x3 ∧ KO R u v [(a0, x0), (a1, x1), (a2, x2), (a3, x3)] := ⟨h.at (by simp), h.at (by simp), h.at (by simp), h.at (by simp), h⟩
theorem ko4o {R : Nat → Prop} {u v v' : World} {a0 a1 a2 a3 : Addr} {x0 x1 x2 x3 : Value} (k : Only R v v') (h : v.cell? a0 = some x0 ∧ v.cell? a1 = some x1 ∧ v.cell? a2 = some x2 ∧ v.cell? a3 = some x3 ∧ KO R u v [(a0, x0), (a1, x1), (a2, x2), (a3, x3)]) : v'.cell? a0 = some x0 ∧ v'.cell? a1 = some x1 ∧ v'.cell? a2 = some x2 ∧ v'.cell? a3 = some x3 ∧ KO R u v' [(a0, x0), (a1, x1), (a2, x2), (a3, x3)] :=
 ko4 ⟨h.2.2.2.2.cells, h.2.2.2.2.only.trans k⟩
theorem szL_take (ks : List T) (k : Nat) (h : k < ks.length) : szL (ks.take (k + 1)) = szL (ks.take k) + (tAt ks k).size := by
 induction ks generalizing k with
 | nil => simp at h
 | cons x ks ih =>
  cases k with
  | zero => simp [szL, tAt]
  | succ k =>
   have := ih k (by simpa using h)
   simp only [List.take_succ_cons, szL, this, Nat.add_assoc]
   rfl
theorem layL_take (ks : List T) (k a : Nat) (h : k < ks.length) : layL a (ks.take (k + 1)) = layL a (ks.take k) ++ lay (a + szL (ks.take k)) (tAt ks k) := by
 induction ks generalizing k a with
 | nil => simp at h
 | cons x ks ih =>
  cases k with
  | zero => simp [layL, tAt, szL]
  | succ k =>
   have := ih k (a + x.size) (by simpa using h)
   simp only [List.take_succ_cons, layL, this, List.append_assoc, szL, Nat.add_assoc]
   rfl
theorem places_take (ks : List T) (k a : Nat) (h : k < ks.length) : places a (ks.take (k + 1)) = places a (ks.take k) ++ [((a + szL (ks.take k) : Nat) : Int)] := by
 induction ks generalizing k a with
 | nil => simp at h
 | cons x ks ih =>
  cases k with
  | zero => simp [places, szL]
  | succ k =>
   have := ih k (a + x.size) (by simpa using h)
   simp only [List.take_succ_cons, places, this, List.cons_append, szL, Nat.add_assoc]
theorem keys_take (ks : List T) (k : Nat) (h : k + 1 < ks.length) : (ks.take (k + 1 + 1)).tail.map T.least = (ks.take (k + 1)).tail.map T.least ++ [(tAt ks (k + 1)).least] := by
 cases ks with
 | nil => simp at h
 | cons x ks =>
  simp only [List.take_succ_cons, List.tail_cons]
  have hk : k < ks.length := by simpa using h
  have e : ks.take (k + 1) = ks.take k ++ [tAt (x :: ks) (k + 1)] := by
   rw [List.take_succ_eq_append_getElem hk]
   simp [tAt, hk]
  rw [e, List.map_append]
  rfl
theorem szL_take_le (ks : List T) (k : Nat) : szL (ks.take k) ≤ szL ks := by
 induction ks generalizing k with
 | nil => simp [szL]
 | cons x ks ih =>
  cases k with
  | zero => simp [szL]
  | succ k =>
   have := ih k
   simp only [List.take_succ_cons, szL]
   omega
theorem ncs_set0 (V : List V3) (x : Value) : ∀ j, j < V.length → ncs (V.set j (x, (vAt V j).2)) = (ncs V).set (j * 3) x := by
 induction V with
 | nil => intro j h; exact absurd h (Nat.not_lt_zero _)
 | cons q V ih =>
  intro j h
  cases j with
  | zero => rfl
  | succ j =>
   have := ih j (by simpa using h)
   rw [show (j + 1) * 3 = j * 3 + 3 by omega]
   show q.1 :: q.2.1 :: q.2.2 :: ncs (V.set j (x, (vAt V j).2)) = _
   rw [this]
   rfl
theorem NO.put0 {w : World} {F G : Nat → Prop} {ms l : List NB} {z : NB} {g n c : Nat} {pv : Value} {ps : List PB} (h' : NO w G (.slice (some ⟨g, 0, none⟩) n c) (ms ++ z :: l)) (hGF : ∀ y, G y → F y) (h4 : ∀ y, F y → y < w.heap.size ∧ (Value.slice (some ⟨g, 0, none⟩) n c).ownBlock ≠ some y) (hp : w.ownsRow 0 112 2 pv ps.length (pcs ps)) (hpf : ∀ y, pv.ownBlock = some y → F y ∧ ¬ G y) :
  NO (w.setCell ⟨g, ms.length * 3, none⟩ pv) F (.slice (some ⟨g, 0, none⟩) n c) (ms ++ ⟨ps, z.keys, z.kids⟩ :: l) := by
 obtain ⟨V, h1, h2, h3', _, h5⟩ := h'
 have h3 := fun i hi => (h3' i hi).mono (R := F) (fun y hy _ => hGF y hy)
 have hgb : (Value.slice (some ⟨g, 0, none⟩) n c).ownBlock = some g := rfl
 have o : Only (fun y => y = g) w (w.setCell ⟨g, ms.length * 3, none⟩ pv) := only_set (R := fun y => y = g) rfl _
 have hF : ∀ y, F y → ¬ y = g := fun y hy e => (h4 y hy).2 (by rw [hgb, e])
 have hl : ms.length < (ms ++ z :: l).length := by simp
 have hl2 : (ms ++ (⟨ps, z.keys, z.kids⟩ : NB) :: l).length = (ms ++ z :: l).length := by simp
 have hn := h3 ms.length hl
 rw [nAt_append_at] at hn
 refine ⟨V.set ms.length (pv, (vAt V ms.length).2), by rw [List.length_set, h1, hl2], ?_, fun i hi => ?_, fun y hy => ⟨Nat.lt_of_lt_of_le (h4 y hy).1 o.size, (h4 y hy).2⟩, fun i j hi hj hij y hy hz => ?_⟩
 ·rw [ncs_set0 _ _ _ (by omega), hl2]
  obtain ⟨k1, k2⟩ := h2
  rcases k2 with ⟨k2, _⟩ | ⟨g', cap, cur, e, k3, k4, k5, k6, k7, k8⟩
  ·cases k2
  ·cases e
   refine ⟨by simpa using k1, .inr ⟨g, c, cur.setIfInBounds (ms.length * 3) pv, rfl, k3, ?_, k5, k6, by simpa using k7, ?_⟩⟩
   ·simp [World.setCell, Array.getElem?_modify, k4]
   ·rw [← k8]
    simp only [Array.toList_setIfInBounds, List.take_set]
 ·by_cases e : i = ms.length
  ·subst e
   rw [vAt_set _ _ _ (by omega), nAt_append_at]
   have hN' := hn.to o (fun y hy _ => hF y hy)
   have hG' : ∀ y, bl (vAt V ms.length) y → G y := (h3' ms.length hl).2.2.2
   have hown : OwN (w.setCell ⟨g, ms.length * 3, none⟩ pv) (pv, (vAt V ms.length).2) ⟨ps, z.keys, z.kids⟩ := ⟨own_kept hp o (fun y hy e => hF y (hpf y hy).1 e), hN'.2.1.2⟩
   have hbl : ∀ y, bl (pv, (vAt V ms.length).2) y → F y := by
    rintro y (e | e)
    ·exact (hpf y e).1
    ·exact hGF y (hG' y (.inr e))
   refine ⟨hown.n1 hbl, hown, fun y => ⟨fun e => ⟨fun d => (hpf y e).2 (hG' y (.inr (.inl d))), fun d => (hpf y e).2 (hG' y (.inr (.inr d)))⟩, (hN'.2.2.1 y).2⟩, hbl⟩
  ·rw [vAt_other _ _ _ _ e]
   have : nAt (ms ++ (⟨ps, z.keys, z.kids⟩ : NB) :: l) i = nAt (ms ++ z :: l) i := by
    by_cases hi2 : i < ms.length
    ·rw [nAt_append_left hi2, nAt_append_left hi2]
    ·obtain ⟨j, rfl⟩ : ∃ j, i = ms.length + 1 + j := ⟨i - ms.length - 1, by omega⟩
     simp only [nAt]
     rw [List.getElem?_append_right (by omega), List.getElem?_append_right (by omega), show ms.length + 1 + j - ms.length = j + 1 by omega]
     rfl
   rw [this]
   exact (h3 i (by omega)).to o (fun y hy _ => hF y hy)
 ·rw [hl2] at hi hj
  have hot : ∀ k, k < (ms ++ z :: l).length → k ≠ ms.length → ∀ y, bl (pv, (vAt V ms.length).2) y → ¬ bl (vAt V k) y := by
   rintro k hk hne y (e | e) d
   ·exact (hpf y e).2 ((h3' k hk).2.2.2 y d)
   ·exact h5 ms.length k hl hk (Ne.symm hne) y (.inr e) d
  by_cases e : i = ms.length
  ·subst e
   rw [vAt_set _ _ _ (by omega)] at hy
   rw [vAt_other _ _ _ _ (Ne.symm hij)] at hz
   exact hot j hj (Ne.symm hij) y hy hz
  ·rw [vAt_other _ _ _ _ e] at hy
   by_cases d : j = ms.length
   ·subst d
    rw [vAt_set _ _ _ (by omega)] at hz
    exact hot i hi e y hz hy
   ·rw [vAt_other _ _ _ _ d] at hz
    exact h5 i j hi hj hij y hy hz
theorem NO.cells {w : World} {F : Nat → Prop} {g n c : Nat} {ns : List NB} (h : NO w F (.slice (some ⟨g, 0, none⟩) n c) ns) (i : Nat) (hi : i < ns.length) : (∃ x0 x1 x2, w.cell? ⟨g, i * 3, none⟩ = some x0 ∧ w.cell? ⟨g, i * 3 + 1, none⟩ = some x1 ∧ w.cell? ⟨g, i * 3 + 2, none⟩ = some x2) ∧ ∀ o, w.frozen? ⟨g, o, none⟩ = false := by
 obtain ⟨V, h1, h2, h3, h4, _⟩ := h
 have hc := World.ownsRow.cells h2 (g := g) rfl
 obtain ⟨c0, c1, c2⟩ := ncs_at V i (by omega)
 have d0 := hc _ _ c0
 have d1 := hc _ _ c1
 have d2 := hc _ _ c2
 rw [Addr.add_lit, Nat.zero_add] at d0 d1 d2
 refine ⟨⟨_, _, _, d0, d1, d2⟩, fun o => ?_⟩
 rcases h2.2 with ⟨e, _⟩ | ⟨g', cap, cur, e, _, k4, _⟩
 ·cases e
 ·cases e
  simp [World.frozen?, k4]
open Go.RowKit
structure NA (w : World) (v : Value) (V : List V3) (ns : List NB) : Prop where
 len : V.length = ns.length
 row : w.ownsRow 0 85 3 v ns.length (ncs V)
 own : ∀ i, i < ns.length → OwN w (vAt V i) (nAt ns i) ∧ ap3 (vAt V i)
 apart : ∀ i j, i < ns.length → j < ns.length → i ≠ j → ∀ y, bl (vAt V i) y → ¬ bl (vAt V j) y
 off : ∀ i, i < ns.length → ∀ y, bl (vAt V i) y → v.ownBlock ≠ some y
theorem NA.to {w w' : World} {R : Nat → Prop} {v : Value} {V : List V3} {ns : List NB} (h : NA w v V ns) (ho : Only R w w') (hv : ∀ y, v.ownBlock = some y → ¬ R y) (hR : ∀ i, i < ns.length → ∀ y, bl (vAt V i) y → ¬ R y) : NA w' v V ns :=
 ⟨h.len, own_kept h.row ho hv, fun i hi => ⟨(h.own i hi).1.to ho (hR i hi), (h.own i hi).2⟩, h.apart, h.off⟩
theorem NA.kept {w w' : World} {v : Value} {V : List V3} {ns : List NB} (h : NA w v V ns) (hb : Below w.heap.size w w') : NA w' v V ns := h.to (only_of_below hb (fun _ => False)) (fun _ _ h => h) (fun _ _ _ _ h => h)
theorem na_nil (w : World) : NA w (.slice none 0 0) [] [] := ⟨rfl, World.ownsRow_nil _ _ _ _, fun i hi => by simp at hi, fun i j hi => by simp at hi, fun i hi => by simp at hi⟩
theorem NA.nr {w : World} {v : Value} {V : List V3} {ns : List NB} (h : NA w v V ns) {S : Nat → Prop} (hS : ∀ y, y < w.heap.size → S y) : Nr w S v ns :=
 ⟨V, h.len, rw_own h.row (fun k _ _ h => hS k h), fun i hi => ⟨rw_own (h.own i hi).1.1 (fun k _ _ h => hS k h), rw_own (h.own i hi).1.2.1 (fun k _ _ h => hS k h), rw_own (h.own i hi).1.2.2 (fun k _ _ h => hS k h)⟩⟩
theorem NA.push {u w2 : World} {v v' : Value} {V : List V3} {ns : List NB} (h : NA u v V ns) (x : NB) (p : V3) (hx : OwN u p x) (hap : ap3 p) (hd : ∀ y, bl p y → v.ownBlock ≠ some y ∧ ∀ i, i < ns.length → ¬ bl (vAt V i) y)
  (ho : w2.ownsRow 0 85 3 v' (ns.length + 1) (ncs V ++ [p.1, p.2.1, p.2.2])) (hg : u.grownBy w2 v.ownBlock) (ha : v'.ownBlock = v.ownBlock ∨ v'.ownBlock = some u.heap.size) :
  NA w2 v' (V ++ [p]) (ns ++ [x]) := by
 have o : Only (fun y => v.ownBlock = some y) u w2 := only_of_grown hg (fun k e => e)
 have hl := h.len
 have hat : ∀ i, i < (ns ++ [x]).length → (i < ns.length ∧ vAt (V ++ [p]) i = vAt V i ∧ nAt (ns ++ [x]) i = nAt ns i) ∨ (i = ns.length ∧ vAt (V ++ [p]) i = p ∧ nAt (ns ++ [x]) i = x) := by
  intro i hi
  simp at hi
  by_cases e : i < ns.length
  ·exact .inl ⟨e, vAt_append_left (by omega), nAt_append_left e⟩
  ·obtain rfl : i = ns.length := by omega
   exact .inr ⟨rfl, by rw [← hl, vAt_append_at], nAt_append_at _ _ _⟩
 refine ⟨by simp [hl], by rw [ncs_append, List.length_append]; exact ho, fun i hi => ?_, fun i j hi hj hij y hy hz => ?_, fun i hi y hy hv => ?_⟩
 ·rcases hat i hi with ⟨e, e1, e2⟩ | ⟨e, e1, e2⟩
  ·rw [e1, e2]; exact ⟨(h.own i e).1.to o (h.off i e), (h.own i e).2⟩
  ·rw [e1, e2]; exact ⟨hx.to o (fun y hy => (hd y hy).1), hap⟩
 ·rcases hat i hi with ⟨e, e1, _⟩ | ⟨e, e1, _⟩
  ·rw [e1] at hy
   rcases hat j hj with ⟨d, d1, _⟩ | ⟨d, d1, _⟩
   ·rw [d1] at hz; exact h.apart i j e d hij y hy hz
   ·rw [d1] at hz; exact (hd y hz).2 i e hy
  ·rw [e1] at hy
   rcases hat j hj with ⟨d, d1, _⟩ | ⟨d, d1, _⟩
   ·rw [d1] at hz; exact (hd y hy).2 j d hz
   ·omega
 ·have : y < u.heap.size ∧ v.ownBlock ≠ some y := by
   rcases hat i hi with ⟨e, e1, _⟩ | ⟨e, e1, _⟩
   ·rw [e1] at hy; exact ⟨(h.own i e).1.lt hy, h.off i e y hy⟩
   ·rw [e1] at hy; exact ⟨hx.lt hy, (hd y hy).1⟩
  rcases ha with ha | ha
  ·rw [ha] at hv; exact this.2 hv
  ·rw [ha] at hv; cases hv; omega
theorem nAt_other (ms : List NB) (z x : NB) (l : List NB) {i : Nat} (h : i ≠ ms.length) : nAt (ms ++ x :: l) i = nAt (ms ++ z :: l) i := by
 by_cases hi2 : i < ms.length
 ·rw [nAt_append_left hi2, nAt_append_left hi2]
 ·obtain ⟨j, rfl⟩ : ∃ j, i = ms.length + 1 + j := ⟨i - ms.length - 1, by omega⟩
  simp only [nAt]
  rw [List.getElem?_append_right (by omega), List.getElem?_append_right (by omega), show ms.length + 1 + j - ms.length = j + 1 by omega]
  rfl
theorem NA.upd {u w2 w3 : World} {v : Value} {V : List V3} {ms l : List NB} {z z' : NB} {p' : V3} {g : Nat} (h : NA u v V (ms ++ z :: l)) (hv : v.ownBlock = some g) (ho : Only (bl (vAt V ms.length)) u w2) (hown : OwN w2 p' z') (hap : ap3 p')
  (hbl : ∀ y, bl p' y → bl (vAt V ms.length) y ∨ u.heap.size ≤ y) (o3 : Only (fun y => y = g) w2 w3) (hrow : w3.ownsRow 0 85 3 v (ms ++ z :: l).length (ncs (V.set ms.length p'))) : NA w3 v (V.set ms.length p') (ms ++ z' :: l) := by
 have hl2 : (ms ++ z' :: l).length = (ms ++ z :: l).length := by simp
 have hlt : ms.length < (ms ++ z :: l).length := by simp
 have hl := h.len
 have hg : g < u.heap.size := (World.ownsRow.lt h.row g hv).2
 have hoff : ∀ y, bl p' y → y ≠ g := by
  intro y hy e
  rcases hbl y hy with h1 | h1
  ·exact h.off _ hlt y h1 (by rw [hv, e])
  ·omega
 have hat : ∀ i, i ≠ ms.length → vAt (V.set ms.length p') i = vAt V i := fun i hi => vAt_other _ _ _ _ hi
 have hat0 : vAt (V.set ms.length p') ms.length = p' := vAt_set _ _ _ (by omega)
 refine ⟨by rw [List.length_set, hl, hl2], by rw [hl2]; exact hrow, fun i hi => ?_, fun i j hi hj hij y hy hz => ?_, fun i hi y hy hv' => ?_⟩
 ·rw [hl2] at hi
  by_cases e : i = ms.length
  ·subst e
   rw [hat0, nAt_append_at]
   exact ⟨hown.to o3 (fun y hy => hoff y hy), hap⟩
  ·rw [hat i e, nAt_other ms z z' l e]
   exact ⟨((h.own i hi).1.to ho (fun y hy hz => h.apart i ms.length hi hlt e y hy hz)).to o3 (fun y hy e2 => h.off i hi y hy (by rw [hv, e2])), (h.own i hi).2⟩
 ·rw [hl2] at hi hj
  have key : ∀ i, i < (ms ++ z :: l).length → i ≠ ms.length → ∀ y, bl (vAt V i) y → ¬ bl p' y := by
   intro i hi e y hy hz
   rcases hbl y hz with h1 | h1
   ·exact h.apart i ms.length hi hlt e y hy h1
   ·have := (h.own i hi).1.lt hy; omega
  by_cases e : i = ms.length
  ·rw [e, hat0] at hy
   have hj' : j ≠ ms.length := by omega
   rw [hat j hj'] at hz
   exact key j hj hj' y hz hy
  ·rw [hat i e] at hy
   by_cases e2 : j = ms.length
   ·rw [e2, hat0] at hz; exact key i hi e y hy hz
   ·rw [hat j e2] at hz; exact h.apart i j hi hj hij y hy hz
 ·rw [hl2] at hi
  rw [hv] at hv'
  cases hv'
  by_cases e : i = ms.length
  ·rw [e, hat0] at hy; exact hoff _ hy rfl
  ·rw [hat i e] at hy; exact h.off i hi _ hy hv
theorem row_set {w : World} {E : TypeId} {s g n c m : Nat} {xs : List Value} (h : w.ownsRow 0 E s (.slice (some ⟨g, 0, none⟩) n c) m xs) (j : Nat) (u : Value) : (w.setCell ⟨g, j, none⟩ u).ownsRow 0 E s (.slice (some ⟨g, 0, none⟩) n c) m (xs.set j u) := by
 obtain ⟨k1, k2⟩ := h
 rcases k2 with ⟨k2, _⟩ | ⟨g', cap, cur, e, k3, k4, k5, k6, k7, k8⟩
 ·cases k2
 ·cases e
  refine ⟨by simpa using k1, .inr ⟨g, c, cur.setIfInBounds j u, rfl, k3, ?_, k5, k6, by simpa using k7, ?_⟩⟩
  ·simp [World.setCell, Array.getElem?_modify, k4]
  ·rw [← k8]
   simp only [Array.toList_setIfInBounds, List.take_set]
theorem set_same {xs : List Value} {j : Nat} {u : Value} (h : xs[j]? = some u) : xs.set j u = xs := by
 apply List.ext_getElem?
 intro i
 rw [List.getElem?_set]
 split
 ·rename_i e; subst e
  split
  ·exact h.symm
  ·rename_i hl; rw [List.getElem?_eq_none (by omega)]
 ·rfl
theorem ncs_set1 (V : List V3) (j : Nat) (x : Value) (h : j < V.length) : ncs (V.set j ((vAt V j).1, x, (vAt V j).2.2)) = (ncs V).set (j * 3 + 1) x := by
 obtain ⟨c0, c1, c2⟩ := ncs_at V j h
 rw [ncs_set _ _ _ h]
 simp only
 rw [set_same c0]
 apply set_same
 rw [List.getElem?_set, if_neg (by omega)]
 exact c2
theorem ncs_set2 (V : List V3) (j : Nat) (x : Value) (h : j < V.length) : ncs (V.set j ((vAt V j).1, (vAt V j).2.1, x)) = (ncs V).set (j * 3 + 2) x := by
 obtain ⟨c0, c1, c2⟩ := ncs_at V j h
 rw [ncs_set _ _ _ h]
 simp only
 rw [set_same c0, set_same c1]
theorem NA.addKey {u w2 : World} {g n c : Nat} {V : List V3} {ms l : List NB} {z : NB} {kx' : Value} {s : ByteArray} (h : NA u (.slice (some ⟨g, 0, none⟩) n c) V (ms ++ z :: l)) (hO : w2.ownsRow 0 9 1 kx' (z.keys.length + 1) (z.keys.map Value.string ++ [.string s])) (hg : u.grownBy w2 (vAt V ms.length).2.1.ownBlock)
  (ha : kx'.ownBlock = (vAt V ms.length).2.1.ownBlock ∨ ∃ k, kx'.ownBlock = some k ∧ u.heap.size ≤ k) :
  NA (w2.setCell ⟨g, ms.length * 3 + 1, none⟩ kx') (.slice (some ⟨g, 0, none⟩) n c) (V.set ms.length ((vAt V ms.length).1, kx', (vAt V ms.length).2.2)) (ms ++ ⟨z.ps, z.keys ++ [s], z.kids⟩ :: l) := by
 have hlt : ms.length < (ms ++ z :: l).length := by simp
 obtain ⟨h1, h2⟩ := h.own _ hlt
 rw [nAt_append_at] at h1
 have o : Only (fun y => (vAt V ms.length).2.1.ownBlock = some y) u w2 := only_of_grown hg (fun k e => e)
 have hl := h.len
 have hnew : ∀ y, kx'.ownBlock = some y → (vAt V ms.length).2.1.ownBlock = some y ∨ u.heap.size ≤ y := by
  intro y hy
  rcases ha with e | ⟨k, e, hk⟩
  ·exact .inl (e ▸ hy)
  ·rw [e] at hy; cases hy; exact .inr hk
 refine h.upd rfl (o.mono (fun y _ e => .inr (.inl e))) ⟨?_, ?_, ?_⟩ ?_ ?_ (only_set (R := fun y => y = g) rfl _) ?_
 ·exact own_kept h1.1 o (fun y e e2 => ((h2 y).1 e).1 e2)
 ·simpa using hO
 ·exact own_kept h1.2.2 o (fun y e e2 => (h2 y).2 e2 e)
 ·intro y
  refine ⟨fun e => ⟨fun e2 => ?_, ((h2 y).1 e).2⟩, fun e e2 => ?_⟩
  ·rcases hnew y e2 with h3 | h3
   ·exact ((h2 y).1 e).1 h3
   ·have := h1.lt (.inl e); omega
  ·rcases hnew y e with h3 | h3
   ·exact (h2 y).2 h3 e2
   ·have := h1.lt (.inr (.inr e2)); omega
 ·rintro y (e | e | e)
  ·exact .inl (.inl e)
  ·exact (hnew y e).imp (fun h => .inr (.inl h)) id
  ·exact .inl (.inr (.inr e))
 ·rw [ncs_set1 _ _ _ (by omega)]
  exact row_set (own_kept h.row o (fun y e e2 => h.off _ hlt y (.inr (.inl e2)) e)) _ _
theorem NA.addKid {u w2 : World} {g n c : Nat} {V : List V3} {ms l : List NB} {z : NB} {ki' : Value} {s : Int} (h : NA u (.slice (some ⟨g, 0, none⟩) n c) V (ms ++ z :: l)) (hO : w2.ownsRow 0 3 1 ki' (z.kids.length + 1) (z.kids.map (Value.int .i64) ++ [.int .i64 s])) (hg : u.grownBy w2 (vAt V ms.length).2.2.ownBlock)
  (ha : ki'.ownBlock = (vAt V ms.length).2.2.ownBlock ∨ ∃ k, ki'.ownBlock = some k ∧ u.heap.size ≤ k) :
  NA (w2.setCell ⟨g, ms.length * 3 + 2, none⟩ ki') (.slice (some ⟨g, 0, none⟩) n c) (V.set ms.length ((vAt V ms.length).1, (vAt V ms.length).2.1, ki')) (ms ++ ⟨z.ps, z.keys, z.kids ++ [s]⟩ :: l) := by
 have hlt : ms.length < (ms ++ z :: l).length := by simp
 obtain ⟨h1, h2⟩ := h.own _ hlt
 rw [nAt_append_at] at h1
 have o : Only (fun y => (vAt V ms.length).2.2.ownBlock = some y) u w2 := only_of_grown hg (fun k e => e)
 have hl := h.len
 have hnew : ∀ y, ki'.ownBlock = some y → (vAt V ms.length).2.2.ownBlock = some y ∨ u.heap.size ≤ y := by
  intro y hy
  rcases ha with e | ⟨k, e, hk⟩
  ·exact .inl (e ▸ hy)
  ·rw [e] at hy; cases hy; exact .inr hk
 refine h.upd rfl (o.mono (fun y _ e => .inr (.inr e))) ⟨?_, ?_, ?_⟩ ?_ ?_ (only_set (R := fun y => y = g) rfl _) ?_
 ·exact own_kept h1.1 o (fun y e e2 => ((h2 y).1 e).2 e2)
 ·exact own_kept h1.2.1 o (fun y e e2 => (h2 y).2 e e2)
 ·simpa using hO
 ·intro y
  refine ⟨fun e => ⟨((h2 y).1 e).1, fun e2 => ?_⟩, fun e e2 => ?_⟩
  ·rcases hnew y e2 with h3 | h3
   ·exact ((h2 y).1 e).2 h3
   ·have := h1.lt (.inl e); omega
  ·rcases hnew y e2 with h3 | h3
   ·exact (h2 y).2 e h3
   ·have := h1.lt (.inr (.inl e)); omega
 ·rintro y (e | e | e)
  ·exact .inl (.inl e)
  ·exact .inl (.inr (.inl e))
  ·exact (hnew y e).imp (fun h => .inr (.inr h)) id
 ·rw [ncs_set2 _ _ _ (by omega)]
  exact row_set (own_kept h.row o (fun y e e2 => h.off _ hlt y (.inr (.inr e2)) e)) _ _
structure NI (w wr : World) (v vv : Value) (V0 V : List V3) (ns L : List NB) (P : Nat → Prop) : Prop where
 na : NA wr vv V L
 old : ∀ i, i < ns.length → vAt V i = vAt V0 i
 new : ∀ i, ns.length ≤ i → i < L.length → ∀ y, bl (vAt V i) y → P y ∨ w.heap.size ≤ y
 only : Only (fun y => v.ownBlock = some y) w wr
 vb : ∀ y, vv.ownBlock = some y → v.ownBlock = some y ∨ w.heap.size ≤ y
open Go.RowKit
set_option linter.unusedVariables false
set_option maxHeartbeats 2000000 in
theorem indexI_any (S : Nat → Prop) (a : Option Addr) (n c : Nat) (l : List Int) (t : Int) (w : World) (h : Ir w S (.slice a n c) l) :
  Calls Tryz.prog 148 #[.slice a n c, .int .i64 t] w fun e w' => (∃ x : Int, e = .returned (.int .i64 x) ∧ (0 ≤ x ↔ t ∈ l) ∧ -1 ≤ x ∧ x ≤ 9223372036854775807) ∧ w = w' := by
 have HN := hid (Rw.len h).1
 have bk := (Rw.len h).2
 have H0 := hid h
 clear h
 go_enter Tryz.func148, Tryz.ntmps148
 go_wp2_with fail
 go_loopw [8] (fun i v => ∃ k : Nat, k ≤ n ∧ i = .int .i64 k ∧ v = w ∧ Hid (t ∉ l.take k)) (fun i _ => n - (intOf i).toNat)
 case atStart => exact ⟨0, Nat.zero_le _, rfl, rfl, (by show _ ∉ _; simp)⟩
 case round =>
  obtain ⟨m, hm, rfl, rfl, HT⟩ := hrel
  by_cases hlt : m < n
  ·have hlt' : (m : Int) < (n : Int) := by omega
   have hml : m < l.length := by rw [← HN.out]; exact hlt
   obtain ⟨b, off, ha, -, -, hcell⟩ := H0.out.at (by omega)
   have hcm := hcell m hlt
   clear hcell
   subst ha
   have HC : Hid (l[m]'hml = iAt l m) := by show _ = _; simp [iAt, hml]
   have HTK : Hid (l.take (m + 1) = l.take m ++ [iAt l m]) := by show _ = _; rw [List.take_succ_eq_append_getElem hml, HC.out]
   have HMM : Hid (iAt l m ∈ l) := by rw [← HC.out]; exact List.getElem_mem hml
   clear hml HC
   generalize iAt l m = cur at *
   by_cases he : t = cur
   ·subst he
    go_wp2
    go_ret
    exact ⟨⟨_, rfl, ⟨fun _ => HMM.out, fun _ => by omega⟩, by omega, by omega⟩, rfl⟩
   ·have he' : (t == cur) = false := by simp [he]
    have HT2 : Hid (t ∉ l.take (m + 1)) := by
     show _ ∉ _
     rw [HTK.out]
     simp [he]
     exact HT.out
    go_wp2
    go_roundw
    case rel => exact ⟨m + 1, by omega, by go_num, by trivial, HT2.out⟩
    case measure => simp [intOf]; omega
  ·have HA : Hid (t ∉ l) := by
    have := HT.out
    rwa [List.take_of_length_le (by rw [← HN.out]; omega)] at this
   go_wp2
   go_ret
   exact ⟨⟨_, rfl, ⟨fun h => absurd h (by decide), fun h => absurd h HA.out⟩, by omega, by omega⟩, rfl⟩
set_option maxHeartbeats 800000 in
theorem containsI_any (S : Nat → Prop) (a : Option Addr) (n c : Nat) (l : List Int) (t : Int) (w : World) (h : Ir w S (.slice a n c) l) :
  Calls Tryz.prog 116 #[.slice a n c, .int .i64 t] w fun e w' => e = .returned (.bool (decide (t ∈ l))) ∧ w = w' := by
 have H0 := hid h
 clear h
 go_enter Tryz.func116, Tryz.ntmps116
 go_wp2_with fail
 refine (indexI_any S a n c l t _ H0.out).mono ?_
 rintro e w1 ⟨⟨x, rfl, hx, h0, h1⟩, rfl⟩
 have HX : Hid (decide (0 ≤ x) = decide (t ∈ l)) := by show _ = _; rw [decide_eq_decide]; exact hx
 clear hx
 go_wp2
 go_ret
 exact ⟨by rw [← HX.out]; rfl, rfl⟩
set_option maxHeartbeats 2000000 in
theorem has_any (S : Nat → Prop) (a : Option Addr) (n c : Nat) (l : List Int) (t : Int) (w : World) (h : Ir w S (.slice a n c) l) :
  Calls Tryz.prog 64 #[.slice a n c, .int .i64 t] w fun e w' => e = .returned (.bool (decide (t ∈ l))) ∧ w = w' := by
 have HN := hid (Rw.len h).1
 have bk := (Rw.len h).2
 have H0 := hid h
 clear h
 go_enter Tryz.func64, Tryz.ntmps64
 go_wp2_with fail
 go_loopw [9] (fun i v => ∃ k : Nat, k ≤ n ∧ i = .int .i64 k ∧ v = w ∧ Hid (t ∉ l.take k)) (fun i _ => n - (intOf i).toNat)
 case atStart => exact ⟨0, Nat.zero_le _, rfl, rfl, (by show _ ∉ _; simp)⟩
 case round =>
  obtain ⟨m, hm, rfl, rfl, HT⟩ := hrel
  by_cases hlt : m < n
  ·have hlt' : (m : Int) < (n : Int) := by omega
   have hml : m < l.length := by rw [← HN.out]; exact hlt
   obtain ⟨b, off, ha, -, -, hcell⟩ := H0.out.at (by omega)
   have hcm := hcell m hlt
   clear hcell
   subst ha
   have HC : Hid (l[m]'hml = iAt l m) := by show _ = _; simp [iAt, hml]
   have HTK : Hid (l.take (m + 1) = l.take m ++ [iAt l m]) := by show _ = _; rw [List.take_succ_eq_append_getElem hml, HC.out]
   have HMM : Hid (iAt l m ∈ l) := by rw [← HC.out]; exact List.getElem_mem hml
   clear hml HC
   generalize iAt l m = cur at *
   by_cases he : cur = t
   ·subst he
    have HA : Hid (decide (cur ∈ l) = true) := decide_eq_true HMM.out
    go_wp2
    go_ret
    exact ⟨by rw [HA.out]; rfl, rfl⟩
   ·have he' : (cur == t) = false := by simp [he]
    have HT2 : Hid (t ∉ l.take (m + 1)) := by
     show _ ∉ _
     rw [HTK.out]
     simp [Ne.symm he]
     exact HT.out
    go_wp2
    go_roundw
    case rel => exact ⟨m + 1, by omega, by go_num, by trivial, HT2.out⟩
    case measure => simp [intOf]; omega
  ·have HA : Hid (decide (t ∈ l) = false) := by
    have := HT.out
    rw [List.take_of_length_le (by rw [← HN.out]; omega)] at this
    exact decide_eq_false this
   go_wp2
   go_ret
   exact ⟨by rw [HA.out]; rfl, rfl⟩
open Go.RowKit
set_option linter.unusedVariables false
def NdP (w : World) (kv : Value) (p : PG) (e : Ending) (w' : World) : Prop := ∃ (a1 : Option Addr) (n1 c1 : Nat) (a2 : Option Addr) (n2 c2 : Nat) (a3 : Option Addr) (n3 c3 : Nat), e = .returned (.agg #[.slice a1 n1 c1, .slice a2 n2 c2, .slice a3 n3 c3]) ∧ OwN w' (.slice a1 n1 c1, .slice a2 n2 c2, .slice a3 n3 c3) (nodeP p) ∧ ap3 (.slice a1 n1 c1, .slice a2 n2 c2, .slice a3 n3 c3) ∧ (∀ y, bl (.slice a1 n1 c1, .slice a2 n2 c2, .slice a3 n3 c3) y → kv.ownBlock = some y ∨ w.heap.size ≤ y) ∧ Below w.heap.size w w'
theorem load_nodN {w : World} {g : Nat} {x y z : Value} (c0 : w.cell? ⟨g, 0, none⟩ = some x) (c1 : w.cell? ⟨g, 1, none⟩ = some y) (c2 : w.cell? ⟨g, 2, none⟩ = some z) :
  (loadVar 85 ⟨g, 0, none⟩).run Tryz.prog w = .ok (.agg #[x, y, z]) w := by go_simp
theorem results_nodN {fn : Func} {p : Tmp} (h : fn.results = #[.cell p 85]) (tmps : Array Value) (w : World) (g : Nat) {x y z : Value} (hp : tmps.getD p undef = .pointer (some ⟨g, 0, none⟩))
  (c0 : w.cell? ⟨g, 0, none⟩ = some x) (c1 : w.cell? ⟨g, 1, none⟩ = some y) (c2 : w.cell? ⟨g, 2, none⟩ = some z) : (results fn tmps).run Tryz.prog w = .ok (.agg #[x, y, z]) w := by
 have hp' : tmps[p]?.getD undef = .pointer (some ⟨g, 0, none⟩) := by simpa using hp
 simp [results, h, hp', asAddr, load_nodN c0 c1 c2]
structure NL (w v : World) (ka : Option Addr) (kn kc : Nat) (va : Option Addr) (vn vc : Nat) (ia : Option Addr) (jn ic : Nat) (pa : Option Addr) (pn pc : Nat) (l : List PB) : Prop where
 bel : Below w.heap.size w v
 k0 : Bk v w.heap.size 107 [.slice ka kn kc, .slice va vn vc, .slice ia jn ic]
 k1 : Bk v (w.heap.size + 1) 85 [.slice none 0 0, .slice none 0 0, .slice none 0 0]
 k2 : Bk v (w.heap.size + 1 + 1) 85 [.slice pa pn pc, .slice none 0 0, .slice none 0 0]
 own : v.ownsRow (w.heap.size + 3) 112 2 (.slice pa pn pc) l.length (pcs l)
theorem NL.below {w v v' : World} {ka : Option Addr} {kn kc : Nat} {va : Option Addr} {vn vc : Nat} {ia : Option Addr} {jn ic : Nat} {pa : Option Addr} {pn pc : Nat} {l : List PB} (h : NL w v ka kn kc va vn vc ia jn ic pa pn pc l) (hb : Below v.heap.size v v') : NL w v' ka kn kc va vn vc ia jn ic pa pn pc l :=
 ⟨bt7 h.bel hb, h.k0.below hb, h.k1.below hb, h.k2.below hb, own_kept h.own (only_of_below hb (fun _ => False)) (fun _ _ h => h)⟩
theorem NL.push {w v v5 : World} {ka : Option Addr} {kn kc : Nat} {va : Option Addr} {vn vc : Nat} {ia : Option Addr} {jn ic : Nat} {pa : Option Addr} {pn pc : Nat} {l : List PB} (h : NL w v ka kn kc va vn vc ia jn ic pa pn pc l) (ks vs : ByteArray) {a5 : Option Addr} {n5 c5 : Nat} (ho : v5.ownsRow (w.heap.size + 3) 112 2 (.slice a5 n5 c5) (l.length + 1) (pcs l ++ [.string ks, .string vs])) (hg : v.grownBy v5 (Value.slice pa pn pc).ownBlock) :
  NL w (v5.setCell ⟨w.heap.size + 1 + 1, 0, none⟩ (.slice a5 n5 c5)) ka kn kc va vn vc ia jn ic a5 n5 c5 (l ++ [(ks, vs)]) := by
 have o : Only (fun y => (Value.slice pa pn pc).ownBlock = some y) v v5 := only_of_grown hg (fun k e => e)
 have hlt : ∀ y, (Value.slice pa pn pc).ownBlock = some y → w.heap.size + 3 ≤ y := fun y e => (World.ownsRow.lt h.own y e).1
 have o2 : Only (fun y => y = w.heap.size + 1 + 1) v5 (v5.setCell ⟨w.heap.size + 1 + 1, 0, none⟩ (.slice a5 n5 c5)) := only_set (R := fun y => y = w.heap.size + 1 + 1) rfl _
 refine ⟨(h.bel.trans (o.below h.bel.size (fun y hy e => by have := hlt y e; omega))).setCell (p := ⟨w.heap.size + 1 + 1, 0, none⟩) (by show w.heap.size ≤ w.heap.size + 1 + 1; omega) _, (h.k0.to o (fun e => by have := hlt _ e; omega)).setOther (by omega) _ _, (h.k1.to o (fun e => by have := hlt _ e; omega)).setOther (by omega) _ _, (h.k2.to o (fun e => by have := hlt _ e; omega)).set 0 _, ?_⟩
 rw [List.length_append, pcs_append]
 exact own_kept ho o2 (fun y e e2 => by have := (World.ownsRow.lt ho y e).1; omega)
theorem NL.start (w : World) (ka : Option Addr) (kn kc : Nat) (va : Option Addr) (vn vc : Nat) (ia : Option Addr) (jn ic : Nat) : NL w (((w.alloc (.cells #[.slice ka kn kc, .slice va vn vc, .slice ia jn ic] 107)).alloc (.cells #[.slice none 0 0, .slice none 0 0, .slice none 0 0] 85)).alloc (.cells #[.slice none 0 0, .slice none 0 0, .slice none 0 0] 85)) ka kn kc va vn vc ia jn ic none 0 0 [] := by
 refine ⟨below_new (below_new (below_new (Below.refl _ _))), ((Bk.new w 107 [.slice ka kn kc, .slice va vn vc, .slice ia jn ic]).alloc _).alloc _, ?_, ?_, World.ownsRow_nil _ _ _ _⟩
 ·have := (Bk.new (w.alloc (.cells #[.slice ka kn kc, .slice va vn vc, .slice ia jn ic] 107)) 85 [.slice none 0 0, .slice none 0 0, .slice none 0 0]).alloc (.cells #[.slice none 0 0, .slice none 0 0, .slice none 0 0] 85)
  simpa using this
 ·have := Bk.new ((w.alloc (.cells #[.slice ka kn kc, .slice va vn vc, .slice ia jn ic] 107)).alloc (.cells #[.slice none 0 0, .slice none 0 0, .slice none 0 0] 85)) 85 [.slice none 0 0, .slice none 0 0, .slice none 0 0]
  simpa using this
theorem NL.fin {w v : World} {ka : Option Addr} {kn kc : Nat} {va : Option Addr} {vn vc : Nat} {ia : Option Addr} {jn ic : Nat} {pa : Option Addr} {pn pc : Nat} {l : List PB} {p : PG} {kv : Value} (h : NL w v ka kn kc va vn vc ia jn ic pa pn pc l) (hp : nodeP p = ⟨l, [], []⟩) (x y z : Value) :
  NdP w kv p (.returned (.agg #[.slice pa pn pc, .slice none 0 0, .slice none 0 0])) (((v.setCell ⟨w.heap.size + 1, 0, none⟩ x).setCell ⟨w.heap.size + 1, 1, none⟩ y).setCell ⟨w.heap.size + 1, 2, none⟩ z) := by
 have o : Only (fun y => y = w.heap.size + 1) v (((v.setCell ⟨w.heap.size + 1, 0, none⟩ x).setCell ⟨w.heap.size + 1, 1, none⟩ y).setCell ⟨w.heap.size + 1, 2, none⟩ z) := ((only_set (R := fun y => y = w.heap.size + 1) rfl _).trans (only_set (R := fun y => y = w.heap.size + 1) rfl _)).trans (only_set (R := fun y => y = w.heap.size + 1) rfl _)
 have hlt : ∀ y, (Value.slice pa pn pc).ownBlock = some y → w.heap.size + 3 ≤ y := fun y e => (World.ownsRow.lt h.own y e).1
 refine ⟨pa, pn, pc, none, 0, 0, none, 0, 0, rfl, ?_, ?_, ?_, ((h.bel.setCell (p := ⟨w.heap.size + 1, 0, none⟩) (Nat.le_succ _) _).setCell (p := ⟨w.heap.size + 1, 1, none⟩) (Nat.le_succ _) _).setCell (p := ⟨w.heap.size + 1, 2, none⟩) (Nat.le_succ _) _⟩
 ·rw [hp]
  exact ⟨ownD_base (own_kept h.own o (fun y e e2 => by have := hlt y e; omega)) (Nat.zero_le _), World.ownsRow_nil _ _ _ _, World.ownsRow_nil _ _ _ _⟩
 ·exact fun y => ⟨fun e => ⟨fun e2 => (by cases e2), fun e2 => (by cases e2)⟩, fun e => (by cases e)⟩
 ·rintro y (e | e | e)
  ·right; have := hlt y e; omega
  ·cases e
  ·cases e
set_option maxHeartbeats 8000000 in
set_option maxRecDepth 100000 in
theorem nodeOf_any (ka : Option Addr) (kn kc : Nat) (va : Option Addr) (vn vc : Nat) (ia : Option Addr) (jn ic : Nat) (p : PG) (w : World) (h : PO w (.slice ka kn kc) (.slice va vn vc) (.slice ia jn ic) p) (hok : pgOk p = true) :
  Calls Tryz.prog 118 #[.agg #[.slice ka kn kc, .slice va vn vc, .slice ia jn ic]] w fun e w' => NdP w (.slice ka kn kc) p e w' := by
 have hs := pgOk_shape hok
 have HK := own_at h.hk
 have HV := own_at h.hv
 have HI := own_at h.hi
 have HP := hid h
 have HNK := hid HK.1
 have HNV := hid HV.1
 have hkc := HK.2.1
 have hkc' := HK.2.2.1
 have hvc := HV.2.1
 have hvc' := HV.2.2.1
 have hic := HI.2.1
 have hic' := HI.2.2.1
 by_cases hj : jn = 0
 ·have HND : Hid (nodeP p = ⟨pairsP p, [], []⟩) := by show _ = _; rw [nodeP, if_pos (by omega)]
  have HVK : Hid (vn = kn) := by show _ = _; have := hs.1 (by omega); omega
  have hk4 : kn ≤ 4 := by omega
  subst hj
  have N0 := hid (NL.start w ka kn kc va vn vc ia 0 ic)
  clear h hs HK HV HI hok
  go_enter Tryz.func118, Tryz.ntmps118
  go_wp2_with fail
  generalize ((w.alloc (.cells #[.slice ka kn kc, .slice va vn vc, .slice ia 0 ic] 107)).alloc (.cells #[.slice none 0 0, .slice none 0 0, .slice none 0 0] 85)).alloc (.cells #[.slice none 0 0, .slice none 0 0, .slice none 0 0] 85) = W at *
  go_loopw [16] (fun i wr => ∃ (k : Nat) (pa : Option Addr) (pn pc : Nat), k ≤ kn ∧ i = .int .i64 k ∧ Hid (NL w wr ka kn kc va vn vc ia 0 ic pa pn pc ((pairsP p).take k))) (fun i _ => kn - (intOf i).toNat)
  case atStart => exact ⟨0, none, 0, 0, Nat.zero_le _, rfl, N0.out⟩
  case round =>
   clear N0
   obtain ⟨k, pa, pn, pc, hk, rfl, NN⟩ := hrel
   by_cases hlt : k < kn
   ·have hlt' : (k : Int) < (kn : Int) := by omega
    have hltv : k < vn := by have := HVK.out; omega
    have hltv' : (k : Int) < (vn : Int) := by omega
    have PR := (HP.out.below NN.out.bel).pgr (S := fun _ => True) (fun _ _ => trivial)
    obtain ⟨kb, ko, rfl, -, -, hck⟩ := PR.hk.at (by omega)
    obtain ⟨vb, vo, rfl, -, hvb, hcv⟩ := PR.hv.at (by omega)
    have q0 := hck k hlt
    have q1 := hcv k hltv
    have HKL : Hid (k < p.keys.length) := by rw [← HNK.out]; exact hlt
    have HTK := hid (pairsP_take p HKL.out)
    have HKV : Hid (∃ ks vs, sAt p.keys k = ks ∧ sAt p.vals k = vs) := ⟨_, _, rfl, rfl⟩
    obtain ⟨ks, vs, hks, hvs⟩ := HKV.out
    rw [hks, hvs] at HTK
    rw [hks] at q0
    rw [hvs] at q1
    have HPL : Hid (((pairsP p).take k).length = k) := by show _ = _; rw [List.length_take, pairsP_len]; have := HKL.out; omega
    have hk6 : k ≤ 1048576 := by omega
    have HVW : Hid (vb < w.heap.size) := by
     have := HP.out.hv
     exact (World.ownsRow.lt this vb rfl).2
    have HW2 : Hid (Below wr.heap.size wr ((wr.alloc (.cells #[.string ks, .string vs] 112)).drew)) := bt7 (below_new (Below.refl _ _)) (below_drew _)
    have N2 := hid (NN.out.below HW2.out)
    have HNE : Hid ((Value.slice pa pn pc).ownBlock ≠ some (w.heap.size + 1 + 1)) := fun e => by have := (World.ownsRow.lt NN.out.own _ e).1; omega
    have H2 : Hid (World.ownsRow ((wr.alloc (.cells #[.string ks, .string vs] 112)).drew) (w.heap.size + 3) 112 2 (.slice pa pn pc) k (pcs ((pairsP p).take k))) := by have := N2.out.own; rw [HPL.out] at this; exact this
    have KN : Hid (Bk ((wr.alloc (.cells #[.string ks, .string vs] 112)).drew) wr.heap.size 112 [.string ks, .string vs]) := (Bk.new wr 112 [.string ks, .string vs]).below (below_drew _)
    have HBS : Hid (w.heap.size + 3 ≤ ((wr.alloc (.cells #[.string ks, .string vs] 112)).drew).heap.size) := by have h1 := N2.out.k2.lt; show _ ≤ _; omega
    have C2 : Hid (((wr.alloc (.cells #[.string ks, .string vs] 112)).drew).cell? ⟨w.heap.size + 1 + 1, 0, none⟩ = some (.slice pa pn pc) ∧ ((wr.alloc (.cells #[.string ks, .string vs] 112)).drew).frozen? ⟨w.heap.size + 1 + 1, 0, none⟩ = false) := ⟨N2.out.k2.cell (j := 0) rfl, N2.out.k2.free 0⟩
    have HPU : Hid (∀ a5 n5 c5 (w5 : World), w5.ownsRow (w.heap.size + 3) 112 2 (.slice a5 n5 c5) (k + 1) (pcs ((pairsP p).take k) ++ [.string ks, .string vs]) → World.grownBy ((wr.alloc (.cells #[.string ks, .string vs] 112)).drew) w5 (Value.slice pa pn pc).ownBlock → NL w (w5.setCell ⟨w.heap.size + 1 + 1, 0, none⟩ (.slice a5 n5 c5)) (some ⟨kb, ko, none⟩) kn kc (some ⟨vb, vo, none⟩) vn vc ia 0 ic a5 n5 c5 ((pairsP p).take (k + 1))) := by
     intro a5 n5 c5 w5 h1 h2
     rw [HTK.out]
     exact N2.out.push ks vs (by rw [HPL.out]; exact h1) h2
    have HSX : Hid (∀ v, Only (fun y => (Value.slice pa pn pc).ownBlock = some y ∨ y = w.heap.size + 1 + 1) wr v → v.cell? ⟨w.heap.size, 1, none⟩ = some (.slice (some ⟨vb, vo, none⟩) vn vc) ∧ v.cell? ⟨vb, vo + k, none⟩ = some (.string vs)) := by
     intro v ov
     have hown := NN.out.own
     refine ⟨(NN.out.k0.to ov (fun e => ?_)).cell (j := 1) rfl, ?_⟩
     ·rcases e with e | e
      ·have := (World.ownsRow.lt hown _ e).1; omega
      ·omega
     ·have hbk := ov.block vb hvb (fun e => by
       have := HVW.out
       rcases e with e | e
       ·have := (World.ownsRow.lt hown _ e).1; omega
       ·omega)
      exact (World.cell?_of_block (w := wr) (a := ⟨vb, vo + k, none⟩) hbk).trans q1
    have HS0 := hid (HSX.out wr.drew (only_of_below (below_drew _) _))
    have S2 := hid (HSX.out _ (only_of_below HW2.out _))
    have c1 := NN.out.k2.cell (j := 0) rfl
    have c2 := C2.out.1
    clear hks hvs hck hcv PR
    go_wp2_with fail
    refine wp_region_noPanic ?_
    refine wp_region_held_drew (S := (fun v => v.cell? ⟨w.heap.size, 1, none⟩ = some (.slice (some ⟨vb, vo, none⟩) vn vc) ∧ v.cell? ⟨vb, vo + k, none⟩ = some (.string vs))) (by kernel_rfl) HS0.out (fun hHeld => ?_)
    simp only [List.size_toArray, List.length_cons, List.length_nil, Array.replicate_succ, Array.replicate_zero, Nat.reduceAdd, List.push_toArray, List.nil_append, List.cons_append]
    refine wpAnyH_take (i := 0) (v := (.pointer (some ⟨w.heap.size + 1 + 1, 0, none⟩))) rfl (by kernel_rfl) (by kernel_rfl) (by kernel_rfl) (fun _ _ _ h => h) (Or.inl ⟨by rfl, ?_⟩) (by assumption) ?_
    ·intro w hSw
     (try dsimp only at hSw)
     go_simp
    try simp only [List.getElem_toArray]
    try simp only [List.getElem_cons_succ]
    try simp only [List.getElem_cons_zero]
    try simp only [Act.put]
    try simp only [List.setIfInBounds_toArray]
    try simp only [List.set_cons_succ]
    try simp only [List.set_cons_zero]
    refine wpAnyH_take (i := 2) (v := (.string ks)) rfl (by kernel_rfl) (by kernel_rfl) (by kernel_rfl) (fun _ _ _ h => h) (Or.inl ⟨by rfl, ?_⟩) (by assumption) ?_
    ·intro w hSw
     (try dsimp only at hSw)
     go_simp
    try simp only [List.getElem_toArray]
    try simp only [List.getElem_cons_succ]
    try simp only [List.getElem_cons_zero]
    try simp only [Act.put]
    try simp only [List.setIfInBounds_toArray]
    try simp only [List.set_cons_succ]
    try simp only [List.set_cons_zero]
    refine wpAnyH_take (i := 3) (v := (.pointer (some ⟨w.heap.size, 1, none⟩))) rfl (by kernel_rfl) (by kernel_rfl) (by kernel_rfl) (fun _ _ _ h => h) (Or.inl ⟨by rfl, ?_⟩) (by assumption) ?_
    ·intro w hSw
     (try dsimp only at hSw)
     go_simp
    try simp only [List.getElem_toArray]
    try simp only [List.getElem_cons_succ]
    try simp only [List.getElem_cons_zero]
    try simp only [Act.put]
    try simp only [List.setIfInBounds_toArray]
    try simp only [List.set_cons_succ]
    try simp only [List.set_cons_zero]
    refine wpAnyH_take (i := 4) (v := (.slice (some ⟨vb, vo, none⟩) vn vc)) rfl (by kernel_rfl) (by kernel_rfl) (by kernel_rfl) (fun _ _ _ h => h) (Or.inl ⟨by rfl, ?_⟩) (by assumption) ?_
    ·intro w hSw
     (try dsimp only at hSw)
     go_simp
    try simp only [List.getElem_toArray]
    try simp only [List.getElem_cons_succ]
    try simp only [List.getElem_cons_zero]
    try simp only [Act.put]
    try simp only [List.setIfInBounds_toArray]
    try simp only [List.set_cons_succ]
    try simp only [List.set_cons_zero]
    refine wpAnyH_take (i := 5) (v := (.int .i64 (k : Int))) rfl (by kernel_rfl) (by kernel_rfl) (by kernel_rfl) (fun _ _ _ h => h) (Or.inl ⟨by rfl, ?_⟩) (by assumption) ?_
    ·intro w hSw
     (try dsimp only at hSw)
     go_simp
    try simp only [List.getElem_toArray]
    try simp only [List.getElem_cons_succ]
    try simp only [List.getElem_cons_zero]
    try simp only [Act.put]
    try simp only [List.setIfInBounds_toArray]
    try simp only [List.set_cons_succ]
    try simp only [List.set_cons_zero]
    refine wpAnyH_take (i := 6) (v := (.pointer (some ⟨vb, vo + k, none⟩))) rfl (by kernel_rfl) (by kernel_rfl) (by kernel_rfl) (fun _ _ _ h => h) (Or.inl ⟨by rfl, ?_⟩) (by assumption) ?_
    ·intro w hSw
     (try dsimp only at hSw)
     go_simp
    try simp only [List.getElem_toArray]
    try simp only [List.getElem_cons_succ]
    try simp only [List.getElem_cons_zero]
    try simp only [Act.put]
    try simp only [List.setIfInBounds_toArray]
    try simp only [List.set_cons_succ]
    try simp only [List.set_cons_zero]
    refine wpAnyH_take (i := 7) (v := (.string vs)) rfl (by kernel_rfl) (by kernel_rfl) (by kernel_rfl) (fun _ _ _ h => h) (Or.inl ⟨by rfl, ?_⟩) (by assumption) ?_
    ·intro w hSw
     (try dsimp only at hSw)
     go_simp
    try simp only [List.getElem_toArray]
    try simp only [List.getElem_cons_succ]
    try simp only [List.getElem_cons_zero]
    try simp only [Act.put]
    try simp only [List.setIfInBounds_toArray]
    try simp only [List.set_cons_succ]
    try simp only [List.set_cons_zero]
    refine wpAnyH_take (i := 8) (v := (.agg #[.string ks, .string vs])) rfl (by kernel_rfl) (by kernel_rfl) (by kernel_rfl) (fun _ _ _ h => h) (Or.inl ⟨by rfl, ?_⟩) (by assumption) ?_
    ·intro w hSw
     (try dsimp only at hSw)
     go_simp
    try simp only [List.getElem_toArray]
    try simp only [List.getElem_cons_succ]
    try simp only [List.getElem_cons_zero]
    try simp only [Act.put]
    try simp only [List.setIfInBounds_toArray]
    try simp only [List.set_cons_succ]
    try simp only [List.set_cons_zero]
    refine wpAnyH_ready (rs := [1, 9]) (by kernel_rfl) (by simp) ?_
    refine AllReadyH.cons rfl (fun K1 hK => ?_) (AllReadyH.cons rfl (fun K1 hK => ?_) AllReadyH.nil)
    ·go_simp
     refine hK.out _ _ ?_ (fun hHeld => ?_)
     ·assumption
     clear hK K1
     try simp only [List.getElem_toArray]
     try simp only [List.getElem_cons_succ]
     try simp only [List.getElem_cons_zero]
     try simp only [Act.put]
     try simp only [List.setIfInBounds_toArray]
     try simp only [List.set_cons_succ]
     try simp only [List.set_cons_zero]
     refine wpAnyH_ready (rs := [9]) (by kernel_rfl) (by simp) ?_
     refine AllReadyH.cons rfl (fun K1 hK => ?_) AllReadyH.nil
     go_simp
     refine hK.out _ _ ?_ (fun hHeld => ?_)
     ·exact S2.out
     clear hK K1
     try simp only [List.getElem_toArray]
     try simp only [List.getElem_cons_succ]
     try simp only [List.getElem_cons_zero]
     try simp only [Act.put]
     try simp only [List.setIfInBounds_toArray]
     try simp only [List.set_cons_succ]
     try simp only [List.set_cons_zero]
     refine wpAnyH_ready (rs := [10]) (by kernel_rfl) (by simp) ?_
     refine AllReadyH.cons rfl (fun K1 hK => ?_) AllReadyH.nil
     refine step_append_g rfl _ _ _ rfl (w.heap.size + 3) 112 (.agg #[.string ⟨#[]⟩, .string ⟨#[]⟩]) 2 32 Tryz.underlying82 infoPairI rfl (by decide) (by decide) (.slice pa pn pc) k (pcs ((pairsP p).take k)) rfl H2.out wr.heap.size [.string ks, .string vs] rfl (rw_two KN.out) rfl (by intro y hy; simp at hy; rcases hy with rfl | rfl <;> rfl) hk6 HBS.out (w.heap.size + 1 + 1) 0 (.slice pa pn pc) C2.out.1 C2.out.2 HNE.out ?_
     intro a5 n5 c5 w5 hO5 hg5 ha5 hc5 hf5
     have P5 := hid (HPU.out a5 n5 c5 w5 hO5 hg5)
     have o5 : Only (fun y => (Value.slice pa pn pc).ownBlock = some y ∨ y = w.heap.size + 1 + 1) (wr.alloc (.cells #[.string ks, .string vs] 112)).drew w5 := only_of_grown hg5 (fun k e => .inl e)
     have S5 := HSX.out _ ((only_of_below HW2.out _).trans o5)
     have S6 := HSX.out (w5.setCell ⟨w.heap.size + 1 + 1, 0, none⟩ (.slice a5 n5 c5)) (((only_of_below HW2.out _).trans o5).trans (only_set (R := fun y => (Value.slice pa pn pc).ownBlock = some y ∨ y = w.heap.size + 1 + 1) (.inr rfl) _))
     refine hK.out _ _ ?_ (fun hHeld => ?_)
     ·exact S5
     clear hK K1
     try simp only [List.getElem_toArray]
     try simp only [List.getElem_cons_succ]
     try simp only [List.getElem_cons_zero]
     try simp only [Act.put]
     try simp only [List.setIfInBounds_toArray]
     try simp only [List.set_cons_succ]
     try simp only [List.set_cons_zero]
     refine wpAnyH_take (i := 11) (v := (.pointer (some ⟨w.heap.size + 1 + 1, 0, none⟩))) rfl (by kernel_rfl) (by kernel_rfl) (by kernel_rfl) (fun _ _ _ h => h) (Or.inl ⟨by rfl, ?_⟩) (by assumption) ?_
     ·intro w hSw
      (try dsimp only at hSw)
      go_simp
     try simp only [List.getElem_toArray]
     try simp only [List.getElem_cons_succ]
     try simp only [List.getElem_cons_zero]
     try simp only [Act.put]
     try simp only [List.setIfInBounds_toArray]
     try simp only [List.set_cons_succ]
     try simp only [List.set_cons_zero]
     refine wpAnyH_ready (rs := [12]) (by kernel_rfl) (by simp) ?_
     refine AllReadyH.cons rfl (fun K1 hK => ?_) AllReadyH.nil
     go_simp
     refine hK.out _ _ ?_ (fun hHeld => ?_)
     ·exact S6
     clear hK K1
     try simp only [List.getElem_toArray]
     try simp only [List.getElem_cons_succ]
     try simp only [List.getElem_cons_zero]
     try simp only [Act.put]
     try simp only [List.setIfInBounds_toArray]
     try simp only [List.set_cons_succ]
     try simp only [List.set_cons_zero]
     refine wpAnyH_done (by kernel_rfl) ?_ _
     refine NoPanic.normal ?_
     clear NN N2 H2 KN HBS C2 HPU HSX HS0 S2 c1 c2 q0 q1 S5 S6 o5 hO5 hg5 ha5 hc5 hf5 hHeld
     go_wp2
     go_roundw
     case rel => exact ⟨k + 1, a5, n5, c5, by omega, by go_num, P5.out⟩
     case measure => simp [intOf]; omega
    ·go_simp
     refine hK.out _ _ ?_ (fun hHeld => ?_)
     ·exact S2.out
     clear hK K1
     try simp only [List.getElem_toArray]
     try simp only [List.getElem_cons_succ]
     try simp only [List.getElem_cons_zero]
     try simp only [Act.put]
     try simp only [List.setIfInBounds_toArray]
     try simp only [List.set_cons_succ]
     try simp only [List.set_cons_zero]
     refine wpAnyH_ready (rs := [1]) (by kernel_rfl) (by simp) ?_
     refine AllReadyH.cons rfl (fun K1 hK => ?_) AllReadyH.nil
     go_simp
     refine hK.out _ _ ?_ (fun hHeld => ?_)
     ·assumption
     clear hK K1
     try simp only [List.getElem_toArray]
     try simp only [List.getElem_cons_succ]
     try simp only [List.getElem_cons_zero]
     try simp only [Act.put]
     try simp only [List.setIfInBounds_toArray]
     try simp only [List.set_cons_succ]
     try simp only [List.set_cons_zero]
     refine wpAnyH_ready (rs := [10]) (by kernel_rfl) (by simp) ?_
     refine AllReadyH.cons rfl (fun K1 hK => ?_) AllReadyH.nil
     refine step_append_g rfl _ _ _ rfl (w.heap.size + 3) 112 (.agg #[.string ⟨#[]⟩, .string ⟨#[]⟩]) 2 32 Tryz.underlying82 infoPairI rfl (by decide) (by decide) (.slice pa pn pc) k (pcs ((pairsP p).take k)) rfl H2.out wr.heap.size [.string ks, .string vs] rfl (rw_two KN.out) rfl (by intro y hy; simp at hy; rcases hy with rfl | rfl <;> rfl) hk6 HBS.out (w.heap.size + 1 + 1) 0 (.slice pa pn pc) C2.out.1 C2.out.2 HNE.out ?_
     intro a5 n5 c5 w5 hO5 hg5 ha5 hc5 hf5
     have P5 := hid (HPU.out a5 n5 c5 w5 hO5 hg5)
     have o5 : Only (fun y => (Value.slice pa pn pc).ownBlock = some y ∨ y = w.heap.size + 1 + 1) (wr.alloc (.cells #[.string ks, .string vs] 112)).drew w5 := only_of_grown hg5 (fun k e => .inl e)
     have S5 := HSX.out _ ((only_of_below HW2.out _).trans o5)
     have S6 := HSX.out (w5.setCell ⟨w.heap.size + 1 + 1, 0, none⟩ (.slice a5 n5 c5)) (((only_of_below HW2.out _).trans o5).trans (only_set (R := fun y => (Value.slice pa pn pc).ownBlock = some y ∨ y = w.heap.size + 1 + 1) (.inr rfl) _))
     refine hK.out _ _ ?_ (fun hHeld => ?_)
     ·exact S5
     clear hK K1
     try simp only [List.getElem_toArray]
     try simp only [List.getElem_cons_succ]
     try simp only [List.getElem_cons_zero]
     try simp only [Act.put]
     try simp only [List.setIfInBounds_toArray]
     try simp only [List.set_cons_succ]
     try simp only [List.set_cons_zero]
     refine wpAnyH_take (i := 11) (v := (.pointer (some ⟨w.heap.size + 1 + 1, 0, none⟩))) rfl (by kernel_rfl) (by kernel_rfl) (by kernel_rfl) (fun _ _ _ h => h) (Or.inl ⟨by rfl, ?_⟩) (by assumption) ?_
     ·intro w hSw
      (try dsimp only at hSw)
      go_simp
     try simp only [List.getElem_toArray]
     try simp only [List.getElem_cons_succ]
     try simp only [List.getElem_cons_zero]
     try simp only [Act.put]
     try simp only [List.setIfInBounds_toArray]
     try simp only [List.set_cons_succ]
     try simp only [List.set_cons_zero]
     refine wpAnyH_ready (rs := [12]) (by kernel_rfl) (by simp) ?_
     refine AllReadyH.cons rfl (fun K1 hK => ?_) AllReadyH.nil
     go_simp
     refine hK.out _ _ ?_ (fun hHeld => ?_)
     ·exact S6
     clear hK K1
     try simp only [List.getElem_toArray]
     try simp only [List.getElem_cons_succ]
     try simp only [List.getElem_cons_zero]
     try simp only [Act.put]
     try simp only [List.setIfInBounds_toArray]
     try simp only [List.set_cons_succ]
     try simp only [List.set_cons_zero]
     refine wpAnyH_done (by kernel_rfl) ?_ _
     refine NoPanic.normal ?_
     clear NN N2 H2 KN HBS C2 HPU HSX HS0 S2 c1 c2 q0 q1 S5 S6 o5 hO5 hg5 ha5 hc5 hf5 hHeld
     go_wp2
     go_roundw
     case rel => exact ⟨k + 1, a5, n5, c5, by omega, by go_num, P5.out⟩
     case measure => simp [intOf]; omega
   ·have HAL : Hid ((pairsP p).take k = pairsP p) := by show _ = _; exact List.take_of_length_le (by rw [pairsP_len]; have := HNK.out; omega)
    rw [HAL.out] at NN
    have c0 := NN.out.k2.cell (j := 0) rfl
    have c1 := NN.out.k2.cell (j := 1) rfl
    have c2 := NN.out.k2.cell (j := 2) rfl
    have r0 := NN.out.k1.cell (j := 0) rfl
    have r1 := NN.out.k1.cell (j := 1) rfl
    have r2 := NN.out.k1.cell (j := 2) rfl
    have f0 := NN.out.k1.free 0
    have f1 := NN.out.k1.free 1
    have f2 := NN.out.k1.free 2
    go_wp2
    try simp only [Exit.inBlock, Exit.then]
    refine bodyPost_ret (v := .agg #[.slice pa pn pc, .slice none 0 0, .slice none 0 0]) ?_ rfl ?_
    ·exact results_nodN rfl _ _ _ rfl (by go_simp) (by go_simp) (by go_simp)
    ·exact NN.out.fin HND.out _ _ _
 ·have HND : Hid (nodeP p = ⟨[], p.keys, []⟩) := by show _ = _; rw [nodeP, if_neg (by omega)]
  have hj' : (0 : Int) < (jn : Int) := by omega
  have HB : Hid (Below w.heap.size w ((w.alloc (.cells #[.slice ka kn kc, .slice va vn vc, .slice ia jn ic] 107)).alloc (.cells #[.slice none 0 0, .slice ka kn kc, .slice none 0 0] 85))) := below_new (below_new (Below.refl _ _))
  have HO := hid (own_kept h.hk (only_of_below HB.out (fun _ => False)) (fun _ _ h => h))
  clear h hs HK HV HI hok
  go_enter Tryz.func118, Tryz.ntmps118
  go_wp2
  try simp only [Exit.inBlock, Exit.then]
  refine bodyPost_ret (v := .agg #[.slice none 0 0, .slice ka kn kc, .slice none 0 0]) ?_ rfl ?_
  ·exact results_nodN rfl _ _ _ rfl (by go_simp) (by go_simp) (by go_simp)
  ·refine ⟨none, 0, 0, ka, kn, kc, none, 0, 0, rfl, ?_, ?_, ?_, HB.out⟩
   ·rw [HND.out]
    exact ⟨World.ownsRow_nil _ _ _ _, HO.out, World.ownsRow_nil _ _ _ _⟩
   ·exact fun y => ⟨fun e => (by cases e), fun e e2 => (by cases e2)⟩
   ·rintro y (e | e | e)
    ·cases e
    ·exact .inl e
    ·cases e
open Go.RowKit Go.ChangeShapes
theorem laid_err {P : Program} {n nm : String} {d : DataW Unit} {r : List (String × DataW Unit)} {W : World} {g : Nat} {ti : TypeId} {ms : Array (String × TypeId)}
  (h : laidMet P ((n, .iface nm d) :: r) W) (hg : P.globalNamed n = some g) (ht : (P.globals[g]?).map (·.type) = some ti) (hi : P.underlying ti = some (.interface ms)) : Err W g := by
 obtain ⟨ps, ⟨g0, t0, cs0, f0, p0, q0, hg0, ht0, hv0, hd0, _, e0⟩, _, hrows⟩ := h
 obtain rfl := Option.some.inj (hg.symm.trans hg0)
 obtain rfl := Option.some.inj (ht.symm.trans ht0)
 obtain ⟨f1, u, v, hcs, hn, h1⟩ := iface_of_trod hi hd0
 have hc : cs0 = #[.iface u v] := by
  cases cs0
  simp_all
 subst hc
 exact ⟨u, v, by simpa using World.var?_cell hg0 hv0 0⟩
theorem Err.lt {w : World} {g : Nat} (h : Err w g) : g < w.heap.size := by
 obtain ⟨t, x, hc⟩ := h
 exact block_lt hc
open Go.RowKit
def Gave (e : Ending) : Prop := ∃ t x, e = .panicked [{ v := .iface t x, recovered := false }]
set_option maxHeartbeats 800000 in
theorem giveUp_any (R : Nat) (w : World) (he : Err w 2) : Calls Tryz.prog 165 #[.pointer (some ⟨R, 0, none⟩)] w fun e w' => Gave e ∧ w = w' := by
 obtain ⟨t, x, hx⟩ := he
 go_enter Tryz.func165, Tryz.ntmps165
 go_wp2
 exact ⟨rfl, ⟨t, x, rfl⟩, rfl⟩
set_option maxHeartbeats 800000 in
theorem goTo_no (R : Nat) (q : Int) (w : World) (he : Err w 2) (hq : q < 0) : Calls Tryz.prog 166 #[.pointer (some ⟨R, 0, none⟩), .int .i64 q] w fun e w' => Gave e ∧ w = w' := by
 have HE := hid he
 clear he
 go_enter Tryz.func166, Tryz.ntmps166
 go_wp2_with fail
 refine (giveUp_any R w HE.out).mono ?_
 rintro e w1 ⟨⟨t, x, rfl⟩, rfl⟩
 go_wp2
 exact ⟨rfl, ⟨t, x, rfl⟩, rfl⟩
set_option maxHeartbeats 800000 in
theorem goTo_yes (R : Nat) (q : Int) (w : World) {u : Value} {y : Int} (hb : Bk w R 191 [u, .int .i64 y]) (hq : 0 ≤ q) : Calls Tryz.prog 166 #[.pointer (some ⟨R, 0, none⟩), .int .i64 q] w fun e w' => e = .returned (.tuple #[]) ∧ w' = w.setCell ⟨R, 1, none⟩ (.int .i64 q) := by
 have c1 := hb.cell (j := 1) rfl
 have f1 := hb.free 1
 have hq' : ¬ q < 0 := by omega
 clear hb
 go_enter Tryz.func166, Tryz.ntmps166
 go_wp2
 go_end0
 exact ⟨rfl, rfl⟩
open Go.RowKit
structure Rs (v : World) (R : Nat) (a : Option Addr) (n c : Nat) (zs : List Int) (q : Int) : Prop where
 bk : Bk v R 191 [.slice a n c, .int .i64 q]
 rd : Rd v a n c zs
 lo : ∀ x, a = some x → 0 < n → x.block < R
 er : Err v 2
 eg : 2 < R
theorem Rs.to {v v' : World} {P : Nat → Prop} {R : Nat} {a : Option Addr} {n c : Nat} {zs : List Int} {q : Int} (h : Rs v R a n c zs q) (ho : Only P v v') (hP : ∀ y, P y → R < y) : Rs v' R a n c zs q := by
 have hlt := h.bk.lt
 have hb : Below (R + 1) v v' := ho.below (by omega) (fun b hb hr => by have := hP b hr; omega)
 exact ⟨h.bk.to ho (fun hr => by have := hP _ hr; omega), h.rd.below (hb.mono (Nat.le_succ R)) h.lo, h.lo, h.er.below hb (by have := h.eg; omega), h.eg⟩
theorem Rs.below {v v' : World} {R : Nat} {a : Option Addr} {n c : Nat} {zs : List Int} {q : Int} (h : Rs v R a n c zs q) (hb : Below v.heap.size v v') : Rs v' R a n c zs q :=
 h.to (P := fun _ => False) (only_of_below hb _) (fun _ h => h.elim)
theorem Rs.went {v v' : World} {R : Nat} {a : Option Addr} {n c : Nat} {zs : List Int} {q q' : Int} (h : Rs v R a n c zs q) (ho : Only (fun y => y = R) v v') (hk : Bk v' R 191 [.slice a n c, .int .i64 q']) : Rs v' R a n c zs q' := by
 have hlt := h.bk.lt
 have hb : Below R v v' := ho.below (by omega) (fun b hb hr => by omega)
 exact ⟨hk, h.rd.below hb h.lo, h.lo, h.er.below hb h.eg, h.eg⟩
def PtP (R : Nat) (a : Option Addr) (n c : Nat) (u : Value) (q : Int) (w : World) (e : Ending) (w' : World) : Prop :=
 Only (fun y => y = R) w w' ∧ w'.heap.size = w.heap.size ∧ ((q < 0 ∧ Gave e) ∨ (0 ≤ q ∧ e = .returned u ∧ Bk w' R 191 [.slice a n c, .int .i64 q]))
set_option maxHeartbeats 2000000 in
set_option maxRecDepth 20000 in
theorem rtext_any (R : Nat) (a : Option Addr) (n c : Nat) (zs : List Int) (q : Int) (w : World) (h : Rs w R a n c zs q) (hq : q ≤ 9223372036854775807) :
  Calls Tryz.prog 178 #[.pointer (some ⟨R, 0, none⟩)] w fun e w' => PtP R a n c (.string (strOf (gt zs q).1)) (gt zs q).2 w e w' := by
 have H0 := hid h
 have c0 := h.bk.cell (j := 0) rfl
 have c1 := h.bk.cell (j := 1) rfl
 have HC := hid (implGetText_any a n c zs q w.drew (h.rd.kept (below_drew _)) hq)
 clear h
 generalize strOf (gt zs q).1 = s at *
 generalize (gt zs q).2 = q' at *
 go_enter Tryz.func178, Tryz.ntmps178
 go_wp2_with fail
 go_cut [3, 4] (fun x y v => x = .string s ∧ y = .int .i64 q' ∧ v = w.drew)
 case first =>
  go_region_with (go_at_call 186; refine HC.out.mono ?_; rintro e w1 ⟨rfl, rfl⟩)
  all_goals (go_wp2_with fail; go_meet)
  all_goals exact ⟨rfl, rfl, rfl⟩
 case rest =>
  obtain ⟨rfl, rfl, rfl⟩ := hcut
  have H1 := hid (H0.out.below (below_drew w))
  have O1 : Hid (Only (fun y => y = R) w w.drew) := only_of_below (below_drew w) _
  have Z1 : Hid (w.drew.heap.size = w.heap.size) := rfl
  clear HC c0 c1 H0
  generalize w.drew = v at *
  by_cases hn : q' < 0
  ·go_wp2_with fail
   refine (goTo_no R q' v H1.out.er hn).mono ?_
   rintro e w1 ⟨⟨t, x, rfl⟩, rfl⟩
   go_wp2
   exact ⟨rfl, O1.out, Z1.out, .inl ⟨hn, t, x, rfl⟩⟩
  ·go_wp2_with fail
   refine (goTo_yes R q' v H1.out.bk (by omega)).mono ?_
   rintro e w1 ⟨rfl, hw1⟩
   have O2 : Hid (Only (fun y => y = R) w w1) := by rw [hw1]; exact O1.out.trans (only_set (R := fun y => y = R) rfl _)
   have K2 : Hid (Bk w1 R 191 [.slice a n c, .int .i64 q']) := by rw [hw1]; exact H1.out.bk.set 1 _
   have Z2 : Hid (w1.heap.size = w.heap.size) := by rw [hw1, ← Z1.out]; show _ = _; simp [World.setCell]
   clear hw1
   go_wp2
   go_ret
   exact ⟨O2.out, Z2.out, .inr ⟨by omega, rfl, K2.out⟩⟩
set_option maxHeartbeats 2000000 in
set_option maxRecDepth 20000 in
theorem rnum_any (R : Nat) (a : Option Addr) (n c : Nat) (zs : List Int) (q : Int) (w : World) (h : Rs w R a n c zs q) (hq : q ≤ 9223372036854775807) :
  Calls Tryz.prog 179 #[.pointer (some ⟨R, 0, none⟩)] w fun e w' => PtP R a n c (.int .i64 (gv zs q).1) (gv zs q).2 w e w' := by
 have H0 := hid h
 have c0 := h.bk.cell (j := 0) rfl
 have c1 := h.bk.cell (j := 1) rfl
 have HC := hid (implGetVar_any a n c zs q w.drew (h.rd.kept (below_drew _)) hq)
 clear h
 generalize (gv zs q).1 = s at *
 generalize (gv zs q).2 = q' at *
 go_enter Tryz.func179, Tryz.ntmps179
 go_wp2_with fail
 go_cut [3, 4] (fun x y v => x = .int .i64 s ∧ y = .int .i64 q' ∧ v = w.drew)
 case first =>
  go_region_with (go_at_call 187; refine HC.out.mono ?_; rintro e w1 ⟨rfl, rfl⟩)
  all_goals (go_wp2_with fail; go_meet)
  all_goals exact ⟨rfl, rfl, rfl⟩
 case rest =>
  obtain ⟨rfl, rfl, rfl⟩ := hcut
  have H1 := hid (H0.out.below (below_drew w))
  have O1 : Hid (Only (fun y => y = R) w w.drew) := only_of_below (below_drew w) _
  have Z1 : Hid (w.drew.heap.size = w.heap.size) := rfl
  clear HC c0 c1 H0
  generalize w.drew = v at *
  by_cases hn : q' < 0
  ·go_wp2_with fail
   refine (goTo_no R q' v H1.out.er hn).mono ?_
   rintro e w1 ⟨⟨t, x, rfl⟩, rfl⟩
   go_wp2
   exact ⟨rfl, O1.out, Z1.out, .inl ⟨hn, t, x, rfl⟩⟩
  ·go_wp2_with fail
   refine (goTo_yes R q' v H1.out.bk (by omega)).mono ?_
   rintro e w1 ⟨rfl, hw1⟩
   have O2 : Hid (Only (fun y => y = R) w w1) := by rw [hw1]; exact O1.out.trans (only_set (R := fun y => y = R) rfl _)
   have K2 : Hid (Bk w1 R 191 [.slice a n c, .int .i64 q']) := by rw [hw1]; exact H1.out.bk.set 1 _
   have Z2 : Hid (w1.heap.size = w.heap.size) := by rw [hw1, ← Z1.out]; show _ = _; simp [World.setCell]
   clear hw1
   go_wp2
   go_ret
   exact ⟨O2.out, Z2.out, .inr ⟨by omega, rfl, K2.out⟩⟩
def CtP (R : Nat) (a : Option Addr) (n c : Nat) (m : Int) (o : Int × Int) (w : World) (e : Ending) (w' : World) : Prop :=
 Only (fun y => y = R) w w' ∧ w'.heap.size = w.heap.size ∧ (((o.2 < 0 ∨ m < o.1) ∧ Gave e) ∨ (0 ≤ o.2 ∧ o.1 ≤ m ∧ e = .returned (.int .i64 o.1) ∧ Bk w' R 191 [.slice a n c, .int .i64 o.2]))
set_option maxHeartbeats 2000000 in
theorem rcount_any (R : Nat) (a : Option Addr) (n c : Nat) (zs : List Int) (q m : Int) (w : World) (h : Rs w R a n c zs q) (hq : q ≤ 9223372036854775807) :
  Calls Tryz.prog 177 #[.pointer (some ⟨R, 0, none⟩), .int .i64 m] w fun e w' => CtP R a n c m (gv zs q) w e w' := by
 have H0 := hid h
 have HC := hid (rnum_any R a n c zs q w h hq)
 clear h
 generalize gv zs q = o at *
 obtain ⟨s, q'⟩ := o
 dsimp only at HC
 go_enter Tryz.func177, Tryz.ntmps177
 go_wp2_with fail
 refine HC.out.mono ?_
 rintro e w1 ⟨ho, hz, hcase⟩
 have O1 := hid ho
 have Z1 := hid hz
 clear ho hz HC
 rcases hcase with ⟨hn, t, x, rfl⟩ | ⟨hn, rfl, hk⟩
 ·go_wp2
  exact ⟨rfl, O1.out, Z1.out, .inl ⟨.inl hn, t, x, rfl⟩⟩
 ·have K1 := hid hk
  have H1 := hid (H0.out.went O1.out hk)
  clear hk
  have HN := hid hn
  clear hn
  by_cases hm : m < s
  ·go_wp2_with fail
   refine (giveUp_any R w1 H1.out.er).mono ?_
   rintro e w2 ⟨⟨t, x, rfl⟩, rfl⟩
   go_wp2
   exact ⟨rfl, O1.out, Z1.out, .inl ⟨.inr hm, t, x, rfl⟩⟩
  ·go_wp2
   go_ret
   exact ⟨O1.out, Z1.out, .inr ⟨HN.out, by show s ≤ m; omega, rfl, K1.out⟩⟩
open Go.RowKit
theorem pg_of {p : PG} {zs : List Int} (h : pgBytes p = some zs) : pgOk p = true ∧ zs = pgFull p := by
 unfold pgBytes at h
 split at h
 ·rename_i hok
  exact ⟨hok, (Option.some.inj h).symm⟩
 ·cases h
theorem pg_head {p : PG} {zs : List Int} (h : pgBytes p = some zs) : ∃ R2, zs = pgHead p ++ R2 := by
 obtain ⟨hok, hz⟩ := pg_of h
 obtain ⟨R, hR⟩ := body_split p 0 p.keys.length
 rw [Nat.zero_add] at hR
 have hr : pgRaw p = pgHead p ++ R := hR
 refine ⟨R ++ List.replicate (512 - (pgRaw p).length) 0, ?_⟩
 rw [hz, pgFull]
 generalize List.replicate (512 - (pgRaw p).length) 0 = Z
 rw [hr, List.append_assoc]
theorem leaf_head {p : PG} {zs : List Int} (h : pgBytes p = some zs) (h0 : p.kids.length = 0) : zAt zs 0 = 76 ∧ gv zs 1 = ((p.keys.length : Int), ((pgBody p 0).length : Int)) := by
 obtain ⟨R2, hh⟩ := pg_head h
 have hn := (pgOk_facts (pg_of h).1).nk
 have hhd : pgHead p = [76] ++ enc (p.keys.length : Int) := by rw [pgHead, if_pos h0, if_pos h0]; simp
 refine ⟨by rw [hh, hhd]; rfl, ?_⟩
 have := gv_enc [76] R2 (p.keys.length : Int) (by omega) (by omega)
 rw [pgBody, hh, hhd]
 simpa [Int.add_comm] using this
theorem branch_head {p : PG} {zs : List Int} (h : pgBytes p = some zs) (h0 : ¬ p.kids.length = 0) : zAt zs 0 = 66 ∧ p.keys.length ≤ 3 ∧ p.vals = [] ∧ ∃ q : Int, 0 ≤ q ∧ gv zs 1 = ((p.keys.length : Int), q) ∧ gv zs q = (iAt p.kids 0, ((pgBody p 0).length : Int)) := by
 obtain ⟨R2, hh⟩ := pg_head h
 have hok := (pg_of h).1
 have hF := pgOk_facts hok
 have hn := hF.nk
 have hbr := hF.br h0
 have hk0 := hbr.2 0 (by omega)
 have h1 := hok
 simp only [pgOk, Bool.and_eq_true] at h1
 have h2 := h1.2
 rw [if_neg h0] at h2
 simp only [pgBranch, Bool.and_eq_true, decide_eq_true_eq] at h2
 have hv0 : p.vals = [] := List.eq_nil_of_length_eq_zero h2.2.2
 have hhd : pgHead p = [66] ++ enc (p.keys.length : Int) ++ enc (iAt p.kids 0) := by rw [pgHead, if_neg h0, if_neg h0]
 refine ⟨by rw [hh, hhd]; rfl, by omega, hv0, (([66] ++ enc (p.keys.length : Int)).length : Int), by omega, ?_, ?_⟩
 ·have := gv_enc [66] (enc (iAt p.kids 0) ++ R2) (p.keys.length : Int) (by omega) (by omega)
  rw [hh, hhd]
  simpa [Int.add_comm] using this
 ·have := gv_enc ([66] ++ enc (p.keys.length : Int)) R2 (iAt p.kids 0) (by omega) (by omega)
  rw [pgBody, hh, hhd, this]
  simp
  omega
theorem leaf_step {p : PG} {zs : List Int} (h : pgBytes p = some zs) (h0 : p.kids.length = 0) {j : Nat} (hj : j < p.keys.length) :
  ∃ q : Int, 0 ≤ q ∧ gt zs ((pgBody p j).length : Int) = (bytesOf (sAt p.keys j), q) ∧ gt zs q = (bytesOf (sAt p.vals j), ((pgBody p (j + 1)).length : Int)) := by
 obtain ⟨hok, hz⟩ := pg_of h
 have hF := pgOk_facts hok
 obtain ⟨hv, hvs⟩ := hF.lf h0
 have hk := hF.ks j hj
 have hvj := hvs j (by omega)
 obtain ⟨R, hR⟩ := body_split p (j + 1) (p.keys.length - (j + 1))
 rw [show j + 1 + (p.keys.length - (j + 1)) = p.keys.length by omega] at hR
 have hr : pgRaw p = pgBody p (j + 1) ++ R := hR
 obtain ⟨rest, hrest⟩ : ∃ rest, zs = pgRaw p ++ rest := ⟨_, hz⟩
 have e1 : zs = pgBody p j ++ (enc ((bytesOf (sAt p.keys j)).length : Int) ++ bytesOf (sAt p.keys j) ++ (enc ((bytesOf (sAt p.vals j)).length : Int) ++ bytesOf (sAt p.vals j))) ++ (R ++ rest) := by
  rw [hrest, hr, pgBody, pgPart, if_pos h0, bytesOf_len, bytesOf_len]
  simp only [List.append_assoc]
 refine ⟨((pgBody p j ++ enc ((bytesOf (sAt p.keys j)).length : Int) ++ bytesOf (sAt p.keys j)).length : Int), by omega, ?_, ?_⟩
 ·have := gt_rest (pgBody p j) (bytesOf (sAt p.keys j)) (enc ((bytesOf (sAt p.vals j)).length : Int) ++ bytesOf (sAt p.vals j) ++ (R ++ rest)) (by rw [bytesOf_len]; omega)
  rw [← this, e1]
  simp only [List.append_assoc]
 ·have := gt_rest (pgBody p j ++ enc ((bytesOf (sAt p.keys j)).length : Int) ++ bytesOf (sAt p.keys j)) (bytesOf (sAt p.vals j)) (R ++ rest) (by rw [bytesOf_len]; omega)
  have e2 : pgBody p (j + 1) = pgBody p j ++ enc ((bytesOf (sAt p.keys j)).length : Int) ++ bytesOf (sAt p.keys j) ++ enc ((bytesOf (sAt p.vals j)).length : Int) ++ bytesOf (sAt p.vals j) := by
   rw [pgBody, pgPart, if_pos h0, bytesOf_len, bytesOf_len]
   simp only [List.append_assoc]
  rw [e2, ← this, e1]
  simp only [List.append_assoc]
theorem branch_step {p : PG} {zs : List Int} (h : pgBytes p = some zs) (h0 : ¬ p.kids.length = 0) {j : Nat} (hj : j < p.keys.length) :
  ∃ q : Int, 0 ≤ q ∧ gt zs ((pgBody p j).length : Int) = (bytesOf (sAt p.keys j), q) ∧ gv zs q = (iAt p.kids (j + 1), ((pgBody p (j + 1)).length : Int)) := by
 obtain ⟨hok, hz⟩ := pg_of h
 have hF := pgOk_facts hok
 obtain ⟨hv, hvs⟩ := hF.br h0
 have hk := hF.ks j hj
 have hvj := hvs (j + 1) (by omega)
 obtain ⟨R, hR⟩ := body_split p (j + 1) (p.keys.length - (j + 1))
 rw [show j + 1 + (p.keys.length - (j + 1)) = p.keys.length by omega] at hR
 have hr : pgRaw p = pgBody p (j + 1) ++ R := hR
 obtain ⟨rest, hrest⟩ : ∃ rest, zs = pgRaw p ++ rest := ⟨_, hz⟩
 have e1 : zs = pgBody p j ++ (enc ((bytesOf (sAt p.keys j)).length : Int) ++ bytesOf (sAt p.keys j) ++ enc (iAt p.kids (j + 1))) ++ (R ++ rest) := by
  rw [hrest, hr, pgBody, pgPart, if_neg h0, bytesOf_len]
  simp only [List.append_assoc]
 refine ⟨((pgBody p j ++ enc ((bytesOf (sAt p.keys j)).length : Int) ++ bytesOf (sAt p.keys j)).length : Int), by omega, ?_, ?_⟩
 ·have := gt_rest (pgBody p j) (bytesOf (sAt p.keys j)) (enc (iAt p.kids (j + 1)) ++ (R ++ rest)) (by rw [bytesOf_len]; omega)
  rw [← this, e1]
  simp only [List.append_assoc]
 ·have := gv_enc (pgBody p j ++ enc ((bytesOf (sAt p.keys j)).length : Int) ++ bytesOf (sAt p.keys j)) (R ++ rest) (iAt p.kids (j + 1)) (by omega) (by omega)
  have e2 : pgBody p (j + 1) = pgBody p j ++ enc ((bytesOf (sAt p.keys j)).length : Int) ++ bytesOf (sAt p.keys j) ++ enc (iAt p.kids (j + 1)) := by
   rw [pgBody, pgPart, if_neg h0, bytesOf_len]
   simp only [List.append_assoc]
  have e3 : ((pgBody p j ++ enc ((bytesOf (sAt p.keys j)).length : Int) ++ bytesOf (sAt p.keys j)).length + (enc (iAt p.kids (j + 1))).length : Nat) = (pgBody p (j + 1)).length := by rw [e2]; exact List.length_append.symm
  rw [e3] at this
  rw [← this, e1]
  simp only [List.append_assoc]
end Go.Proofs.YtidjehapeanpbaaGreatDoor
