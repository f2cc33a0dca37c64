/-
  Operations on disks as plain data, rows of operations, what they do to a disk.
-/
import Derived.Test.YtcpdedpgjaimkaaDkV
import Derived.Test.YtcpdedpgjaimkaaDkI
namespace Go.Proofs.Ytcpdedpgjaimkaa
open Go.RowKit
set_option linter.unusedVariables false
/-- An operation: whether it is a sync, and its write. -/
abbrev OW := Bool × DW
def oAt (l : List OW) (i : Nat) : OW := l[i]?.getD (false, 0, [])
def yAt (X : List (Bool × Int × Value)) (i : Nat) : Bool × Int × Value := X[i]?.getD (false, 0, .slice none 0 0)
def ocs : List (Bool × Int × Value) → List Value
  | [] => []
  | p :: ps => .bool p.1 :: .int .i64 p.2.1 :: p.2.2 :: ocs ps
theorem ocs_length (ps : List (Bool × Int × Value)) : (ocs ps).length = ps.length * 3 := by
  induction ps with
  | nil => rfl
  | cons p ps ih => simp only [ocs, List.length_cons, ih]; omega
theorem ocs_at (ps : List (Bool × Int × Value)) : ∀ i, i < ps.length → (ocs ps)[i * 3]? = some (.bool (yAt ps i).1) ∧ (ocs ps)[i * 3 + 1]? = some (.int .i64 (yAt ps i).2.1) ∧ (ocs ps)[i * 3 + 2]? = some (yAt ps i).2.2 := by
  induction ps with
  | nil => intro i h; exact absurd h (Nat.not_lt_zero _)
  | cons p ps ih =>
    intro i h
    cases i with
    | zero => exact ⟨rfl, rfl, rfl⟩
    | succ i =>
      have := ih i (by simpa using h)
      rw [show (i + 1) * 3 = i * 3 + 3 by omega, show i * 3 + 3 + 1 = i * 3 + 1 + 3 by omega, show i * 3 + 3 + 2 = i * 3 + 2 + 3 by omega]
      exact this
/-- The slice value v leads to the operations l. -/
def Opr (w : World) (S : Nat → Prop) (v : Value) (l : List OW) : Prop := ∃ X : List (Bool × Int × Value), X.length = l.length ∧ Rw w S v l.length (ocs X) ∧ ∀ i, i < l.length → (yAt X i).1 = (oAt l i).1 ∧ (yAt X i).2.1 = (oAt l i).2.1 ∧ By w S (yAt X i).2.2 (oAt l i).2.2
theorem Opr.to {w w' : World} {S R : Nat → Prop} {v : Value} {l : List OW} (h : Opr w S v l) (ho : Only R w w') (hd : ∀ b, S b → b < w.heap.size → ¬ R b) : Opr w' S v l := by
  obtain ⟨V, h1, h2, h3⟩ := h
  exact ⟨V, h1, h2.to ho hd, fun i hi => ⟨(h3 i hi).1, (h3 i hi).2.1, (h3 i hi).2.2.to ho hd⟩⟩
theorem Opr.mono {w : World} {S R : Nat → Prop} {v : Value} {l : List OW} (h : Opr w S v l) (hd : ∀ b, S b → b < w.heap.size → R b) : Opr w R v l := by
  obtain ⟨V, h1, h2, h3⟩ := h
  exact ⟨V, h1, h2.mono hd, fun i hi => ⟨(h3 i hi).1, (h3 i hi).2.1, (h3 i hi).2.2.mono hd⟩⟩
theorem Opr.below {w w' : World} {S : Nat → Prop} {v : Value} {l : List OW} (h : Opr w S v l) (hb : Below w.heap.size w w') : Opr w' S v l := h.to (only_of_below hb (fun _ => False)) (fun _ _ _ h => h)
theorem Opr.len {w : World} {S : Nat → Prop} {a : Option Addr} {n c : Nat} {l : List OW} (h : Opr w S (.slice a n c) l) : n = l.length ∧ n ≤ c ∧ c ≤ 9223372036854775807 := by
  obtain ⟨V, h1, h2, h3⟩ := h
  exact Rw.len h2
theorem Opr.at {w : World} {S : Nat → Prop} {a : Option Addr} {n c : Nat} {l : List OW} (h : Opr w S (.slice a n c) l) (hp : 0 < n) : ∃ b off, a = some ⟨b, off, none⟩ ∧ S b ∧ b < w.heap.size ∧ ∀ i, i < n → ∃ ap np cp,
    w.cell? ⟨b, off + i * 3, none⟩ = some (.bool (oAt l i).1) ∧ w.cell? ⟨b, off + i * 3 + 1, none⟩ = some (.int .i64 (oAt l i).2.1) ∧ w.cell? ⟨b, off + i * 3 + 2, none⟩ = some (.slice ap np cp) ∧ By w S (.slice ap np cp) (oAt l i).2.2 := by
  obtain ⟨V, h1, h2, h3⟩ := h
  have hn := (Rw.len h2).1
  obtain ⟨b, off, e1, e2, e3, e4⟩ := h2.at hp
  refine ⟨b, off, e1, e2, e3, fun i hi => ?_⟩
  obtain ⟨k0, k1, k2⟩ := h3 i (by omega)
  obtain ⟨c0, c1, c2⟩ := ocs_at V i (by omega)
  have d0 := e4 _ _ c0
  have d1 := e4 _ _ c1
  have d2 := e4 _ _ c2
  obtain ⟨ap, cp, g0⟩ := k2.1.sliceOf
  rw [g0] at d2 k2
  rw [k0] at d0
  rw [k1] at d1
  exact ⟨ap, _, cp, d0, by rw [Nat.add_assoc]; exact d1, by rw [Nat.add_assoc]; exact d2, k2⟩
/-- What one operation, a list of them, does to a disk that is right. -/
def op1 (d : DK) (o : OW) : Option DK := if o.1 = true then some (dsV d) else dwrV d o.2.1 o.2.2
def opS : List OW → DK → Option DK
  | [], d => some d
  | o :: l, d => match op1 d o with
    | none => none
    | some d' => opS l d'
def doV (d : DK) (l : List OW) : DK := if dkOk d = true then (opS l d).getD emD else emD
theorem opS_step (l : List OW) {k : Nat} (h : k < l.length) (d : DK) : opS (l.drop k) d = match op1 d (oAt l k) with | none => none | some d' => opS (l.drop (k + 1)) d' := by
  rw [List.drop_eq_getElem_cons h]
  have e : oAt l k = l[k] := by simp [oAt, h]
  rw [e]
  rfl
theorem opS_none (l : List OW) {k : Nat} (h : k < l.length) {d : DK} (e : op1 d (oAt l k) = none) : opS (l.drop k) d = none := by rw [opS_step l h, e]
theorem opS_some (l : List OW) {k : Nat} (h : k < l.length) {d d' : DK} (e : op1 d (oAt l k) = some d') : opS (l.drop k) d = opS (l.drop (k + 1)) d' := by rw [opS_step l h, e]
theorem syS_sht {ss : List (List Int)} {ds : List DW} {n : Nat} (h : ∀ i, i < ss.length → shtOk (shAt ss i) = true) (hd : ∀ i, i < ds.length → wrtOk n (dwAt ds i) = true) : ∀ k, k ≤ ds.length → ∀ i, i < ss.length → shtOk (shAt (syS ss ds k) i) = true := by
  intro k
  induction k with
  | zero => intro _ i hi; exact h i hi
  | succ k ih =>
    intro hk i hi
    rw [syS]
    by_cases e : i = (dwAt ds k).1.toNat
    · rw [e, shAt_set (by rw [syS_len, ← e]; exact hi)]
      have := (wrtOk_iff _ _).1 (hd k (by omega))
      rw [shtOk_iff]
      exact .inr this.2.2
    · rw [shAt_other e]
      exact ih (by omega) i hi
theorem dsV_ok {d : DK} (h : dkOk d = true) : dsV d = ⟨syS d.sh d.dw d.dw.length, []⟩ ∧ dkOk (dsV d) = true := by
  have hk := (dkOk_iff d).1 h
  have e : dsV d = ⟨syS d.sh d.dw d.dw.length, []⟩ := by rw [dsV, if_pos h]
  refine ⟨e, ?_⟩
  rw [e, dkOk_iff]
  refine ⟨by rw [syS_len]; exact hk.1, by rw [syS_len]; exact hk.2.1, Nat.zero_le _, fun i hi => ?_, fun i hi => by simp at hi⟩
  rw [syS_len] at hi
  exact syS_sht hk.2.2.2.1 hk.2.2.2.2 _ (Nat.le_refl _) i hi
theorem op1_ok {d d' : DK} {o : OW} (h : dkOk d = true) (e : op1 d o = some d') : dkOk d' = true := by
  unfold op1 at e
  by_cases hs : o.1 = true
  · rw [if_pos hs] at e
    cases e
    exact (dsV_ok h).2
  · rw [if_neg hs] at e
    unfold dwrV at e
    by_cases hw : dkOk (dwrD d o.2.1 o.2.2) = true
    · rw [if_pos hw] at e
      cases e
      exact hw
    · rw [if_neg hw] at e; cases e
theorem doV_no {d : DK} {l : List OW} (h : dkOk d = false) : doV d l = emD := by rw [doV, h]; rfl
theorem doV_yes {d : DK} {l : List OW} (h : dkOk d = true) : doV d l = (opS l d).getD emD := by rw [doV, if_pos h]
theorem dk_smallO {d : DK} (h : dkOk d = true) : smallD d ∧ d.sh.length ≤ 400 ∧ d.dw.length ≤ 500 ∧ 2 ≤ d.sh.length := by
  have hk := (dkOk_iff d).1 h
  refine ⟨⟨fun i hi => ?_, fun i hi => ?_⟩, hk.2.1, hk.2.2.1, hk.1⟩
  · have := (shtOk_iff _).1 (hk.2.2.2.1 i hi); omega
  · have := (wrtOk_iff _ _).1 (hk.2.2.2.2 i hi); omega
def smallO (l : List OW) : Prop := ∀ i, (oAt l i).2.2.length ≤ 1048576
/-- What the specification holds between two operations: the argument's box, the result's, the disk at hand. -/
structure SP (w v : World) (b : Nat) (sa : Option Addr) (sn sc : Nat) (da : Option Addr) (dn dc : Nat) (d : DK) : Prop where
  bel : Below w.heap.size w v
  k4 : Bk v (w.heap.size + 1) 46 [.slice none 0 0, .slice none 0 0]
  kd : Bk v b 46 [.slice sa sn sc, .slice da dn dc]
  bl : w.heap.size + 1 < b
  own : ∃ V U, DO v (w.heap.size + 2) (.slice sa sn sc) V (.slice da dn dc) U d ∧ ∀ y, dbl (.slice sa sn sc) V (.slice da dn dc) U y → y ≠ b
  ok : dkOk d = true
theorem SP.below {w v v' : World} {b : Nat} {sa : Option Addr} {sn sc : Nat} {da : Option Addr} {dn dc : Nat} {d : DK} (h : SP w v b sa sn sc da dn dc d) (hb : Below v.heap.size v v') : SP w v' b sa sn sc da dn dc d := by
  obtain ⟨V, U, h1, h2⟩ := h.own
  exact ⟨bt7 h.bel hb, h.k4.below hb, h.kd.below hb, h.bl, ⟨V, U, h1.below hb, h2⟩, h.ok⟩
theorem SP.put {w v v' : World} {b B : Nat} {sa : Option Addr} {sn sc : Nat} {da : Option Addr} {dn dc : Nat} {d : DK} (h : SP w v b sa sn sc da dn dc d) (hb : Below v.heap.size v v') {sa' : Option Addr} {sn' sc' : Nat} {da' : Option Addr} {dn' dc' : Nat} {d' : DK} {V' : List Value} {U' : List (Int × Value)} (hO : DO v' B (.slice sa' sn' sc') V' (.slice da' dn' dc') U' d') (hB : b < B) (hok : dkOk d' = true) :
    SP w ((v'.setCell ⟨b, 0, none⟩ (.slice sa' sn' sc')).setCell ⟨b, 1, none⟩ (.slice da' dn' dc')) b sa' sn' sc' da' dn' dc' d' := by
  have hv := h.below hb
  have hbl := h.bl
  have o : Only (fun y => y = b) v' ((v'.setCell ⟨b, 0, none⟩ (.slice sa' sn' sc')).setCell ⟨b, 1, none⟩ (.slice da' dn' dc')) := (only_set (R := fun y => y = b) rfl _).trans (only_set (R := fun y => y = b) rfl _)
  exact ⟨(hv.bel.setCell (p := ⟨b, 0, none⟩) (by show w.heap.size ≤ b; omega) _).setCell (p := ⟨b, 1, none⟩) (by show w.heap.size ≤ b; omega) _, hv.k4.to o (by omega), (hv.kd.set 0 _).set 1 _, hbl, ⟨V', U', (hO.to o (fun y hy e => by have := (hO.lt hy).1; omega)).base (by omega), fun y hy e => by have := (hO.lt hy).1; omega⟩, hok⟩
theorem SP.dk {w v : World} {b : Nat} {sa : Option Addr} {sn sc : Nat} {da : Option Addr} {dn dc : Nat} {d : DK} (h : SP w v b sa sn sc da dn dc d) : Dk v (fun _ => True) sa sn sc da dn dc d := by
  obtain ⟨V, U, h1, _⟩ := h.own
  exact h1.dk (fun _ _ => trivial)
theorem SP.cells {w v : World} {b : Nat} {sa : Option Addr} {sn sc : Nat} {da : Option Addr} {dn dc : Nat} {d : DK} (h : SP w v b sa sn sc da dn dc d) : (v.cell? ⟨b, 0, none⟩ = some (.slice sa sn sc) ∧ v.cell? ⟨b, 1, none⟩ = some (.slice da dn dc)) ∧ (v.frozen? ⟨b, 0, none⟩ = false ∧ v.frozen? ⟨b, 1, none⟩ = false) ∧ (v.cell? ⟨w.heap.size + 1, 0, none⟩ = some (.slice none 0 0) ∧ v.cell? ⟨w.heap.size + 1, 1, none⟩ = some (.slice none 0 0)) ∧ (v.frozen? ⟨w.heap.size + 1, 0, none⟩ = false ∧ v.frozen? ⟨w.heap.size + 1, 1, none⟩ = false) :=
  ⟨⟨h.kd.cell (j := 0) rfl, h.kd.cell (j := 1) rfl⟩, ⟨h.kd.free 0, h.kd.free 1⟩, ⟨h.k4.cell (j := 0) rfl, h.k4.cell (j := 1) rfl⟩, h.k4.free 0, h.k4.free 1⟩
theorem SP.fin {w v : World} {b : Nat} {sa : Option Addr} {sn sc : Nat} {da : Option Addr} {dn dc : Nat} {d : DK} (h : SP w v b sa sn sc da dn dc d) (x y : Value) : DkPost1 d w (.returned (.agg #[.slice sa sn sc, .slice da dn dc])) ((v.setCell ⟨w.heap.size + 1, 0, none⟩ x).setCell ⟨w.heap.size + 1, 1, none⟩ y) := by
  obtain ⟨V, U, h1, _⟩ := h.own
  have o : Only (fun y => y = w.heap.size + 1) v ((v.setCell ⟨w.heap.size + 1, 0, none⟩ x).setCell ⟨w.heap.size + 1, 1, none⟩ y) := (only_set (R := fun y => y = w.heap.size + 1) rfl _).trans (only_set (R := fun y => y = w.heap.size + 1) rfl _)
  exact ⟨_, _, _, _, _, _, V, U, rfl, (h1.to o (fun y hy e => by have := (h1.lt hy).1; omega)).base (by omega), (h.bel.setCell (p := ⟨w.heap.size + 1, 0, none⟩) (Nat.le_succ _) _).setCell (p := ⟨w.heap.size + 1, 1, none⟩) (Nat.le_succ _) _⟩
theorem em_fin {w v : World} (h : Below w.heap.size w v) (x y : Value) : DkPost1 emD w (.returned (.agg #[.slice none 0 0, .slice none 0 0])) ((v.setCell ⟨w.heap.size + 1, 0, none⟩ x).setCell ⟨w.heap.size + 1, 1, none⟩ y) :=
  ⟨_, _, _, _, _, _, _, _, rfl, do_nil _ _, (h.setCell (p := ⟨w.heap.size + 1, 0, none⟩) (Nat.le_succ _) _).setCell (p := ⟨w.heap.size + 1, 1, none⟩) (Nat.le_succ _) _⟩
set_option maxHeartbeats 4000000 in
set_option maxRecDepth 20000 in
theorem specDoOps_any (S E : Nat → Prop) (sa : Option Addr) (sn sc : Nat) (da : Option Addr) (dn dc : Nat) (d : DK) (a : Option Addr) (n c : Nat) (l : List OW) (w : World) (h : Dk w S sa sn sc da dn dc d) (hsm : smallD d) (h1 : sn ≤ 1048576) (h2 : dn ≤ 1048576) (hl : Opr w E (.slice a n c) l) (hso : smallO l) :
    Calls Try.prog 14 #[.agg #[.slice sa sn sc, .slice da dn dc], .slice a n c] w fun e w' => DkPost1 (doV d l) w e w' := by
  have HH := hid h
  have HSM := hid hsm
  have HSO := hid hso
  have HL := hid hl
  have HLN := hid hl.len.1
  have hlc := hl.len.2
  have hsc := h.hs.len.2
  have hdc := h.hd.len.2
  have HB0 : Hid (Below w.heap.size w ((w.alloc (.cells #[.slice sa sn sc, .slice da dn dc] 46)).alloc (.cells #[.slice none 0 0, .slice none 0 0] 46))) := below_new (below_new (Below.refl _ _))
  have K0 := hid ((Bk.new w 46 [.slice sa sn sc, .slice da dn dc]).alloc (.cells #[.slice none 0 0, .slice none 0 0] 46))
  have K1 : Hid (Bk ((w.alloc (.cells #[.slice sa sn sc, .slice da dn dc] 46)).alloc (.cells #[.slice none 0 0, .slice none 0 0] 46)) (w.heap.size + 1) 46 [.slice none 0 0, .slice none 0 0]) := by
    have := Bk.new (w.alloc (.cells #[.slice sa sn sc, .slice da dn dc] 46)) 46 [.slice none 0 0, .slice none 0 0]
    show Bk _ _ _ _
    simpa using this
  have HOK := hid (specDiskOk_any S sa sn sc da dn dc d _ (h.below HB0.out))
  have hnot : ∀ (x : Bool) (w : World), (Op.unary .not (.bool x)).run Try.prog w = .ok (.bool (!x)) w := fun _ _ => rfl
  clear h hsm hl hso
  go_enter Try.func14, Try.ntmps14
  go_wp2_with fail
  refine HOK.out.mono ?_
  generalize (w.alloc (.cells #[.slice sa sn sc, .slice da dn dc] 46)).alloc (.cells #[.slice none 0 0, .slice none 0 0] 46) = W0 at *
  rintro e w1 ⟨rfl, hb⟩
  have J0 := hid (K0.out.below hb)
  have J1 := hid (K1.out.below hb)
  have B1 := hid (bt7 HB0.out hb)
  clear hb HB0 K0 K1 HOK
  cases hok : dkOk d with
  | false =>
    have HF := hid (doV_no (l := l) hok)
    have r0 := J1.out.cell (j := 0) rfl
    have r1 := J1.out.cell (j := 1) rfl
    have f0 := J1.out.free 0
    have f1 := J1.out.free 1
    go_wp2
    try simp only [Exit.inBlock, Exit.then]
    refine bodyPost_ret (v := .agg #[.slice none 0 0, .slice none 0 0]) ?_ rfl ?_
    · exact results_dsk rfl _ _ _ rfl (by go_simp) (by go_simp)
    · rw [HF.out]
      exact em_fin B1.out _ _
  | true =>
    have HF := hid (doV_yes (l := l) hok)
    have HOK := hid hok
    clear hok
    have d0 := J0.out.cell (j := 0) rfl
    have d1 := J0.out.cell (j := 1) rfl
    go_wp2_with fail
    refine (l05Copy_any S sa sn sc da dn dc d w1 (HH.out.below B1.out) HSM.out h1 h2).mono ?_
    rintro e w2 ⟨pa, pn, pc, qa, qn, qc, V2, U2, rfl, hO, hb⟩
    have P2 : Hid (SP w (w2.alloc (.cells #[.slice pa pn pc, .slice qa qn qc] 46)) w2.heap.size pa pn pc qa qn qc d) := by
      have hbn := below_new (o := .cells #[.slice pa pn pc, .slice qa qn qc] 46) (w := w2) (Below.refl _ _)
      have q1 := J1.out.lt
      have q2 := hb.size
      exact ⟨bt7 (bt7 B1.out hb) hbn, (J1.out.below hb).below hbn, Bk.new w2 46 [.slice pa pn pc, .slice qa qn qc], by omega, ⟨V2, U2, (hO.below hbn).base (by omega), fun y hy => by have := (hO.lt hy).2; omega⟩, HOK.out⟩
    clear hO hb J0 J1 B1 d0 d1
    go_wp2_with fail
    generalize hbx : w2.heap.size = bx at *
    clear hbx
    generalize w2.alloc (.cells #[.slice pa pn pc, .slice qa qn qc] 46) = w3 at *
    go_loopw [18] (fun i wr => ∃ (k : Nat) (pa : Option Addr) (pn pc : Nat) (qa : Option Addr) (qn qc : Nat) (d' : DK), k ≤ n ∧ i = .int .i64 k ∧ Hid (SP w wr bx pa pn pc qa qn qc d') ∧ Hid (opS l d = opS (l.drop k) d')) (fun i _ => n - (intOf i).toNat)
    case atStart => exact ⟨0, pa, pn, pc, qa, qn, qc, d, Nat.zero_le _, rfl, P2.out, rfl⟩
    case round =>
      clear P2 HOK
      obtain ⟨k, pa, pn, pc, qa, qn, qc, d', hk, rfl, PP, DD⟩ := hrel
      by_cases hlt : k < n
      · have hlt' : (k : Int) < (n : Int) := by omega
        have hkl : k < l.length := by rw [← HLN.out]; exact hlt
        obtain ⟨eb, eo, ha, -, -, hcell⟩ := (HL.out.below PP.out.bel).at (by omega)
        subst ha
        obtain ⟨xp, xn, xc, m0, m1, m2, hby⟩ := hcell k hlt
        clear hcell
        have HSN := hid (fun h => opS_none l hkl (d := d') h)
        have HSS := hid (fun d'' h => opS_some l hkl (d := d') (d' := d'') h)
        have HO1 := hid (fun d'' h => op1_ok (d := d') (o := oAt l k) (d' := d'') PP.out.ok h)
        have HET : Hid (op1 d' (oAt l k) = if (oAt l k).1 = true then some (dsV d') else dwrV d' (oAt l k).2.1 (oAt l k).2.2) := rfl
        have HBL := hid (HSO.out k)
        have HBY := hid hby
        have HSD := hid (dk_smallO PP.out.ok)
        have HPN := hid (And.intro PP.out.dk.hs.len.1 PP.out.dk.hd.len.1)
        have hpn := PP.out.dk.hs.len.2
        have hqn := PP.out.dk.hd.len.2
        clear hkl hby
        generalize oAt l k = cur at *
        obtain ⟨cs, ct, cb⟩ := cur
        have hbe := below_new (o := .cells #[.bool cs, .int .i64 ct, .slice xp xn xc] 111) (w := wr) (Below.refl _ _)
        have P3 := hid (PP.out.below hbe)
        have Y3 := hid (HBY.out.below hbe)
        have KE := hid (Bk.new wr 111 [.bool cs, .int .i64 ct, .slice xp xn xc])
        have q0 := KE.out.cell (j := 0) rfl
        have q1 := KE.out.cell (j := 1) rfl
        have q2 := KE.out.cell (j := 2) rfl
        have hgw : bx < wr.heap.size := PP.out.kd.lt
        obtain ⟨⟨c0, c1⟩, -, -, -⟩ := P3.out.cells
        have hx1 : xn = cb.length := HBY.out.len.1
        have hxn : xn ≤ 1048576 := by have := HBL.out; simp only at this; omega
        clear hbe PP HBY
        cases cs with
        | true =>
          have HT2 : Hid (op1 d' (true, ct, cb) = some (dsV d')) := by show _ = _; rw [HET.out]; rfl
          have D4 : Hid (opS l d = opS (l.drop (k + 1)) (dsV d')) := DD.out.trans (HSS.out _ HT2.out)
          have G4 := hid (HO1.out _ HT2.out)
          clear HSN HSS HO1 HET hx1
          go_wp2_with fail
          refine (specDiskSync_any (fun _ => True) pa pn pc qa qn qc d' _ P3.out.dk HSD.out.1 (by have := HPN.out; have := HSD.out; omega) (by have := HPN.out; have := HSD.out; omega)).mono ?_
          rintro e w4 ⟨ra, rn, rc, ta, tn, tc, V4, U4, rfl, hO, hb⟩
          have P4 := hid (P3.out.put hb hO (by have := P3.out.kd.lt; omega) G4.out)
          have P5 := hid (P3.out.below hb)
          clear hO hb P3 Y3 KE q0 q1 q2 c0 c1 hgw
          obtain ⟨⟨c0, c1⟩, ⟨f0, f1⟩, -, -⟩ := P5.out.cells
          clear P5
          go_wp2
          go_roundw
          case rel => exact ⟨k + 1, ra, rn, rc, ta, tn, tc, _, by omega, by go_num, P4.out, D4.out⟩
          case measure => simp [intOf]; omega
        | false =>
          have HT2 : Hid (op1 d' (false, ct, cb) = dwrV d' ct cb) := by show _ = _; rw [HET.out]; rfl
          clear HET hx1
          go_wp2_with fail
          refine (specDiskWrite_any (fun _ => True) pa pn pc qa qn qc d' ct xp xn xc cb _ P3.out.dk HSD.out.1 (by have := HPN.out; have := HSD.out; omega) (by have := HPN.out; have := HSD.out; omega) (Y3.out.rd hxn) hxn).mono ?_
          rintro e w4 ⟨ra, rn, rc, ta, tn, tc, V4, U4, rfl, hO, hb⟩
          have P5 := hid (P3.out.below hb)
          have hb5 := below_new (o := .cells #[.slice ra rn rc, .slice ta tn tc] 46) (w := w4) (Below.refl _ _)
          have KN := hid (Bk.new w4 46 [.slice ra rn rc, .slice ta tn tc])
          have P6 := hid (P5.out.below hb5)
          have n0 := KN.out.cell (j := 0) rfl
          have n1 := KN.out.cell (j := 1) rfl
          have hg4 : bx < w4.heap.size := P5.out.kd.lt
          have hw4 : w.heap.size + 1 < w4.heap.size := P5.out.k4.lt
          cases hdw : dwrV d' ct cb with
          | none =>
            have HR2 : Hid (doV d l = emD) := by show _ = _; rw [HF.out, DD.out, HSN.out (HT2.out.trans hdw)]; rfl
            clear hO hb P3 Y3 KE q0 q1 q2 c0 c1 hgw hb5 hdw HSN HSS HO1
            obtain ⟨-, -, ⟨r0, r1⟩, f0, f1⟩ := P5.out.cells
            have B5 := hid P6.out.bel
            go_wp2
            try simp only [Exit.inBlock, Exit.then]
            refine bodyPost_ret (v := .agg #[.slice none 0 0, .slice none 0 0]) ?_ rfl ?_
            · exact results_dsk rfl _ _ _ rfl (by go_simp) (by go_simp)
            · rw [HR2.out]
              have hz := em_fin B5.out (.slice none 0 0) (.slice none 0 0)
              rw [World.setCell_alloc_past _ _ _ _ (by simpa [World.setCell] using hw4), World.setCell_alloc_past _ _ _ _ (by simpa [World.setCell] using hw4)] at hz
              exact hz
          | some d4 =>
            have D4 : Hid (opS l d = opS (l.drop (k + 1)) d4) := DD.out.trans (HSS.out _ (HT2.out.trans hdw))
            have G4 := hid (HO1.out _ (HT2.out.trans hdw))
            rw [hdw] at hO
            have P4 := hid (P5.out.put (v' := w4.alloc (.cells #[.slice ra rn rc, .slice ta tn tc] 46)) hb5 (hO.below hb5) (by have := P3.out.kd.lt; omega) G4.out)
            have P4' : Hid (SP w (((w4.setCell ⟨bx, 0, none⟩ (.slice ra rn rc)).setCell ⟨bx, 1, none⟩ (.slice ta tn tc)).alloc (.cells #[.slice ra rn rc, .slice ta tn tc] 46)) bx ra rn rc ta tn tc d4) := by
              have := P4.out
              rwa [World.setCell_alloc_past _ _ _ _ (by simpa [World.setCell] using hg4), World.setCell_alloc_past _ _ _ _ (by simpa [World.setCell] using hg4)] at this
            clear hO hb P3 Y3 KE q0 q1 q2 c0 c1 hgw hb5 hdw HSN HSS HO1
            obtain ⟨⟨c0, c1⟩, ⟨f0, f1⟩, -, -⟩ := P5.out.cells
            clear P5 P6
            go_wp2
            go_roundw
            case rel => exact ⟨k + 1, ra, rn, rc, ta, tn, tc, _, by omega, by go_num, (by first | exact P4.out | exact P4'.out), D4.out⟩
            case measure => simp [intOf]; omega
      · have HR2 : Hid (doV d l = d') := by
          show _ = _
          rw [HF.out, DD.out, List.drop_eq_nil_of_le (by rw [← HLN.out]; omega)]
          rfl
        clear HF DD
        obtain ⟨⟨c0, c1⟩, -, ⟨r0, r1⟩, f0, f1⟩ := PP.out.cells
        go_wp2
        try simp only [Exit.inBlock, Exit.then]
        refine bodyPost_ret (v := .agg #[.slice pa pn pc, .slice qa qn qc]) ?_ rfl ?_
        · exact results_dsk rfl _ _ _ rfl (by go_simp) (by go_simp)
        · rw [HR2.out]
          exact PP.out.fin _ _
end Go.Proofs.Ytcpdedpgjaimkaa

