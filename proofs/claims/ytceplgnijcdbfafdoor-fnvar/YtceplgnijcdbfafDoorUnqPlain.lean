/-
  Plain mathematics: what is read of a quoted text, and that it is what was written.
-/
import Derived.Test.YtceplgnijcdbfafDoorQuote
namespace Go.Proofs.YtceplgnijcdbfafDoor

/-- The number of a digit, 16 where it is none. -/
def halfV (z : Int) : Int := if 48 ≤ z ∧ z ≤ 57 then z - 48 else if 65 ≤ z ∧ z ≤ 70 then z - 55 else 16
/-- The number of a digit, -1 where it is none. -/
def hexV (z : Int) : Int := if 48 ≤ z ∧ z ≤ 57 then z - 48 else if 65 ≤ z ∧ z ≤ 70 then z - 55 else -1
theorem half_hex (d : Int) (h0 : 0 ≤ d) (h1 : d ≤ 15) : halfV (hexD d) = d ∧ hexV (hexD d) = d := by
  unfold hexD halfV hexV
  by_cases h : d < 10
  · simp only [h, if_true]; constructor <;> rw [if_pos (by omega)] <;> omega
  · simp only [h, if_false]; constructor <;> rw [if_neg (by omega), if_pos (by omega)] <;> omega
theorem hex_of (z : Int) (h : 0 ≤ hexV z) : hexD (hexV z) = z ∧ hexV z ≤ 15 := by
  unfold hexV at *
  by_cases h1 : 48 ≤ z ∧ z ≤ 57
  · rw [if_pos h1] at h ⊢; unfold hexD; rw [if_pos (by omega)]; omega
  · rw [if_neg h1] at h ⊢
    by_cases h2 : 65 ≤ z ∧ z ≤ 70
    · rw [if_pos h2] at h ⊢; unfold hexD; rw [if_neg (by omega)]; omega
    · rw [if_neg h2] at h; omega
theorem half_range (z : Int) : 0 ≤ halfV z ∧ halfV z ≤ 16 := by unfold halfV; split <;> (try split) <;> omega

/-- The next byte that is read off a quoted text, and how many bytes it takes. -/
def us (L : List Int) : Option Int × Nat :=
  if isPl (L[0]?.getD 0) then (some (L[0]?.getD 0), 1)
  else if L[0]?.getD 0 ≠ 37 ∨ L.length < 3 then (none, L.length)
  else if hexV (L[1]?.getD 0) < 0 ∨ hexV (L[2]?.getD 0) < 0 ∨ isPl (hexV (L[1]?.getD 0) * 16 + hexV (L[2]?.getD 0)) = true then (none, L.length)
  else (some (hexV (L[1]?.getD 0) * 16 + hexV (L[2]?.getD 0)), 3)
/-- All that is read off it, by f steps at most. -/
def dec : Nat → List Int → Option (List Int)
  | 0, _ => none
  | f + 1, L => if L = [] then some [] else match (us L).1 with
    | none => none
    | some b => (dec f (L.drop (us L).2)).map (b :: ·)
theorem us_len (L : List Int) (h : L ≠ []) : 1 ≤ (us L).2 ∧ (us L).2 ≤ L.length := by
  have hl : 1 ≤ L.length := by
    cases L with
    | nil => exact absurd rfl h
    | cons _ _ => simp
  unfold us
  split
  · exact ⟨Nat.le_refl _, hl⟩
  · split
    · exact ⟨hl, Nat.le_refl _⟩
    · rename_i h2
      split
      · exact ⟨hl, Nat.le_refl _⟩
      · exact ⟨by omega, by show 3 ≤ L.length; omega⟩
theorem us_byte (L : List Int) (hb : ∀ z ∈ L, 0 ≤ z ∧ z ≤ 255) (b : Int) (h : (us L).1 = some b) : 0 ≤ b ∧ b ≤ 255 := by
  have h0 := byte_at hb 0
  unfold us at h
  split at h
  · cases h; exact h0
  · split at h
    · cases h
    · split at h
      · cases h
      · rename_i h3
        have a1 := hex_of (L[1]?.getD 0) (by omega)
        have a2 := hex_of (L[2]?.getD 0) (by omega)
        cases h
        omega
theorem dec_nil (f : Nat) : dec (f + 1) [] = some [] := by simp [dec]
theorem dec_step (f : Nat) (L : List Int) (h : L ≠ []) : dec (f + 1) L = match (us L).1 with | none => none | some b => (dec f (L.drop (us L).2)).map (b :: ·) := by
  simp [dec, h]
theorem dec_fuel : ∀ (f g : Nat) (L : List Int), L.length < f → L.length < g → dec f L = dec g L := by
  intro f
  induction f with
  | zero => intro g L h; omega
  | succ f ih =>
    intro g L hf hg
    cases g with
    | zero => omega
    | succ g =>
      by_cases h : L = []
      · subst h; rw [dec_nil, dec_nil]
      · rw [dec_step f L h, dec_step g L h]
        have hl := us_len L h
        cases (us L).1 with
        | none => rfl
        | some b =>
          have := ih g (L.drop (us L).2) (by rw [List.length_drop]; omega) (by rw [List.length_drop]; omega)
          simp only [this]
/-- What is read of the quoted form of a byte. -/
theorem us_qb (b : Int) (h0 : 0 ≤ b) (h1 : b ≤ 255) (r : List Int) : us (qb b ++ r) = (some b, (qb b).length) := by
  by_cases hp : isPl b = true
  · have e : qb b = [b] := by unfold qb; rw [if_pos hp]
    rw [e]
    unfold us
    simp [hp]
  · have e : qb b = [37, hexD (b / 16), hexD (b % 16)] := by unfold qb; rw [if_neg hp]
    rw [e]
    have n37 : isPl 37 = false := by decide
    have a1 := (half_hex (b / 16) (by omega) (by omega)).2
    have a2 := (half_hex (b % 16) (by omega) (by omega)).2
    unfold us
    have z0 : ([37, hexD (b / 16), hexD (b % 16)] ++ r)[0]?.getD 0 = 37 := rfl
    have z1 : ([37, hexD (b / 16), hexD (b % 16)] ++ r)[1]?.getD 0 = hexD (b / 16) := rfl
    have z2 : ([37, hexD (b / 16), hexD (b % 16)] ++ r)[2]?.getD 0 = hexD (b % 16) := rfl
    have hv : b / 16 * 16 + b % 16 = b := by omega
    rw [z0, z1, z2, a1, a2, hv, n37]
    rw [if_neg (by simp), if_neg (by simp), if_neg (by simp [hp]; omega)]
    rfl
theorem drop_qb (b : Int) (r : List Int) : (qb b ++ r).drop (qb b).length = r := List.drop_left
theorem qb_ne (b : Int) (r : List Int) : qb b ++ r ≠ [] := by unfold qb; split <;> simp
theorem qb_pos (b : Int) : 1 ≤ (qb b).length := by unfold qb; split <;> simp
theorem dec_qs : ∀ (o : List Int), (∀ z ∈ o, 0 ≤ z ∧ z ≤ 255) → ∀ f, (qs o).length < f → dec f (qs o) = some o := by
  intro o
  induction o with
  | nil =>
    intro _ f hf
    cases f with
    | zero => simp at hf
    | succ f => exact dec_nil f
  | cons b o ih =>
    intro hb f hf
    have hbb := hb b (List.mem_cons_self)
    have e : qs (b :: o) = qb b ++ qs o := by simp [qs]
    rw [e] at hf ⊢
    rw [List.length_append] at hf
    have := qb_pos b
    cases f with
    | zero => omega
    | succ f =>
      rw [dec_step f _ (qb_ne b _), us_qb b hbb.1 hbb.2, drop_qb, ih (fun z hz => hb z (List.mem_cons_of_mem _ hz)) f (by omega)]
      rfl
/-- What is read was written so. -/
theorem us_sound (L : List Int) (h : L ≠ []) (b : Int) (hb : (us L).1 = some b) : L = qb b ++ L.drop (us L).2 := by
  unfold us at hb ⊢
  split at hb
  · rename_i hp
    rw [if_pos hp]
    cases L with
    | nil => exact absurd rfl h
    | cons z r =>
      simp at hp hb
      subst hb
      unfold qb
      rw [if_pos hp]
      rfl
  · rename_i hp
    rw [if_neg hp]
    split at hb
    · cases hb
    · rename_i h2
      rw [if_neg h2]
      split at hb
      · cases hb
      · rename_i h3
        rw [if_neg h3]
        match L, h2, h3, hb with
        | z :: x :: y :: r, h2, h3, hb =>
          have e0 : (z :: x :: y :: r)[0]?.getD 0 = z := rfl
          have e1 : (z :: x :: y :: r)[1]?.getD 0 = x := rfl
          have e2 : (z :: x :: y :: r)[2]?.getD 0 = y := rfl
          rw [e0] at h2
          rw [e1, e2] at h3 hb
          have a1 := hex_of x (by omega)
          have a2 := hex_of y (by omega)
          cases hb
          have hnp : ¬ isPl (hexV x * 16 + hexV y) = true := fun hh => h3 (.inr (.inr hh))
          have q1 : (hexV x * 16 + hexV y) / 16 = hexV x := by omega
          have q2 : (hexV x * 16 + hexV y) % 16 = hexV y := by omega
          unfold qb
          rw [if_neg hnp, q1, q2, a1.1, a2.1]
          have : z = 37 := by
            rcases Decidable.em (z = 37) with e | e
            · exact e
            · exact absurd (.inl e) h2
          rw [this]
          rfl
        | [], h2, _, _ => exact absurd (.inr (by simp)) h2
        | [_], h2, _, _ => exact absurd (.inr (by simp)) h2
        | [_, _], h2, _, _ => exact absurd (.inr (by simp)) h2
theorem dec_sound : ∀ (f : Nat) (L o : List Int), dec f L = some o → L = qs o := by
  intro f
  induction f with
  | zero => intro L o h; simp [dec] at h
  | succ f ih =>
    intro L o h
    by_cases hl : L = []
    · subst hl
      rw [dec_nil] at h
      cases h
      rfl
    · rw [dec_step f L hl] at h
      cases hu : (us L).1 with
      | none => rw [hu] at h; cases h
      | some b =>
        rw [hu] at h
        simp only [Option.map_eq_some_iff] at h
        obtain ⟨o', h1, rfl⟩ := h
        have := ih _ _ h1
        rw [us_sound L hl b hu, this]
        simp [qs]
theorem dec_byte : ∀ (f : Nat) (L o : List Int), (∀ z ∈ L, 0 ≤ z ∧ z ≤ 255) → dec f L = some o → ∀ z ∈ o, 0 ≤ z ∧ z ≤ 255 := by
  intro f
  induction f with
  | zero => intro L o _ h; simp [dec] at h
  | succ f ih =>
    intro L o hb h
    by_cases hl : L = []
    · subst hl
      rw [dec_nil] at h
      cases h
      simp
    · rw [dec_step f L hl] at h
      cases hu : (us L).1 with
      | none => rw [hu] at h; cases h
      | some b =>
        rw [hu] at h
        simp only [Option.map_eq_some_iff] at h
        obtain ⟨o', h1, rfl⟩ := h
        intro z hz
        rcases List.mem_cons.1 hz with e | e
        · subst e; exact us_byte L hb _ hu
        · exact ih _ o' (fun z hz => hb z (List.mem_of_mem_drop hz)) h1 z e

/-- What the model reads, whatever the text: L is what is left, with the last mark. -/
def sd : List Int → List Int
  | [] => []
  | [_] => []
  | [z, _] => [z]
  | z :: h :: l :: r => if z = 37 then (halfV h % 16 * 16 + halfV l % 16) :: sd r else z :: sd (h :: l :: r)
theorem sd_byte : ∀ (n : Nat) (L : List Int), L.length ≤ n → (∀ z ∈ L, 0 ≤ z ∧ z ≤ 255) → ∀ z ∈ sd L, 0 ≤ z ∧ z ≤ 255 := by
  intro n
  induction n with
  | zero =>
    intro L hl _ z hz
    have : L = [] := List.eq_nil_of_length_eq_zero (by omega)
    subst this
    simp [sd] at hz
  | succ n ih =>
    intro L hl hb z hz
    match L, hl, hb, hz with
    | [], _, _, hz => simp [sd] at hz
    | [_], _, _, hz => simp [sd] at hz
    | [x, _], _, hb, hz => simp [sd] at hz; subst hz; exact hb z List.mem_cons_self
    | x :: h :: l :: r, hl, hb, hz =>
      simp only [sd] at hz
      split at hz
      · rcases List.mem_cons.1 hz with e | e
        · have a := half_range h
          have b := half_range l
          omega
        · exact ih r (by simp at hl; omega) (fun z hz => hb z (by simp [hz])) z e
      · rcases List.mem_cons.1 hz with e | e
        · subst e; exact hb z List.mem_cons_self
        · exact ih (h :: l :: r) (by simp at hl ⊢; omega) (fun z hz => hb z (List.mem_cons_of_mem _ hz)) z e
theorem sd_qs : ∀ (o : List Int), (∀ z ∈ o, 0 ≤ z ∧ z ≤ 255) → sd (qs o ++ [34]) = o := by
  intro o
  induction o with
  | nil => intro _; rfl
  | cons b o ih =>
    intro hb
    have hbb := hb b List.mem_cons_self
    have iho := ih (fun z hz => hb z (List.mem_cons_of_mem _ hz))
    have e : qs (b :: o) = qb b ++ qs o := by simp [qs]
    rw [e, List.append_assoc]
    by_cases hp : isPl b = true
    · have eb : qb b = [b] := by unfold qb; rw [if_pos hp]
      have hne : b ≠ 37 := ((isPl_iff b).1 hp).2.2.2
      rw [eb]
      cases ho : qs o ++ [34] with
      | nil => simp at ho
      | cons x r =>
        rw [ho] at iho
        cases r with
        | nil =>
          simp [sd] at iho
          show sd [b, x] = b :: o
          rw [iho]; rfl
        | cons y r =>
          show sd (b :: x :: y :: r) = b :: o
          simp only [sd]
          rw [if_neg hne]
          exact congrArg (b :: ·) iho
    · have eb : qb b = [37, hexD (b / 16), hexD (b % 16)] := by unfold qb; rw [if_neg hp]
      rw [eb]
      show sd (37 :: hexD (b / 16) :: hexD (b % 16) :: (qs o ++ [34])) = b :: o
      simp only [sd]
      rw [if_pos trivial, iho, (half_hex (b / 16) (by omega) (by omega)).1, (half_hex (b % 16) (by omega) (by omega)).1]
      congr 1
      omega

theorem bytes_str (o : List Int) (hb : ∀ z ∈ o, 0 ≤ z ∧ z ≤ 255) : bytesOf (strOf o) = o := by
  unfold bytesOf strOf
  simp only [List.map_map]
  have : ∀ z ∈ o, ((fun b : UInt8 => (b.toNat : Int)) ∘ fun z : Int => UInt8.ofNat z.toNat) z = z := by
    intro z hz
    have := hb z hz
    simp only [Function.comp, UInt8.toNat_ofNat']
    omega
  rw [List.map_congr_left this]
  simp
theorem str_bytes (s : ByteArray) : strOf (bytesOf s) = s := by
  unfold bytesOf strOf
  simp [List.map_map, Function.comp_def]
theorem str_size (o : List Int) : (strOf o).size = o.length := by
  show (strOf o).data.size = o.length
  simp [strOf]

/-- What comes of a writer that holds zs when all of L is read into it. -/
def comb : Option (List Int) → List Int → Option (List Int)
  | none, _ => none
  | some zs, L => match dec (L.length + 1) L with
    | none => none
    | some o => if (zs ++ o).length ≤ 4096 then some (zs ++ o) else none
theorem comb_none (L : List Int) : comb none L = none := rfl
theorem comb_nil (zs : List Int) (h : zs.length ≤ 4096) : comb (some zs) [] = some zs := by
  show (match dec 1 [] with | none => none | some o => if (zs ++ o).length ≤ 4096 then some (zs ++ o) else none) = some zs
  rw [dec_nil]
  simp [h]
theorem comb_bad (zs L : List Int) (h : L ≠ []) (hu : (us L).1 = none) : comb (some zs) L = none := by
  show (match dec (L.length + 1) L with | none => none | some o => if (zs ++ o).length ≤ 4096 then some (zs ++ o) else none) = none
  rw [dec_step _ L h, hu]
theorem comb_good (zs L : List Int) (h : L ≠ []) (b : Int) (hu : (us L).1 = some b) : comb (some zs) L = comb (addSt 4096 (some zs) [b]) (L.drop (us L).2) := by
  have hl := us_len L h
  have e1 : comb (some zs) L = match dec (L.length + 1) L with | none => none | some o => if (zs ++ o).length ≤ 4096 then some (zs ++ o) else none := rfl
  have e2 : addSt 4096 (some zs) [b] = if zs.length + 1 ≤ 4096 then some (zs ++ [b]) else none := rfl
  rw [e1, e2, dec_step _ L h, hu, dec_fuel L.length ((L.drop (us L).2).length + 1) (L.drop (us L).2) (by rw [List.length_drop]; omega) (by omega)]
  by_cases hz : zs.length + 1 ≤ 4096
  · rw [if_pos hz]
    have e3 : comb (some (zs ++ [b])) (L.drop (us L).2) = match dec ((L.drop (us L).2).length + 1) (L.drop (us L).2) with | none => none | some o => if (zs ++ [b] ++ o).length ≤ 4096 then some (zs ++ [b] ++ o) else none := rfl
    rw [e3]
    cases dec ((L.drop (us L).2).length + 1) (L.drop (us L).2) with
    | none => rfl
    | some o => simp
  · rw [if_neg hz, comb_none]
    cases dec ((L.drop (us L).2).length + 1) (L.drop (us L).2) with
    | none => rfl
    | some o =>
      simp only [Option.map_some]
      rw [if_neg (by simp; omega)]

/-- What stands between the marks. -/
def mid (s : ByteArray) : List Int := ((bytesOf s).take (s.size - 1)).drop 1
/-- What Unquote answers. -/
def uq (s : ByteArray) : Option (List Int) := if 2 ≤ s.size ∧ (bytesOf s)[0]?.getD 0 = 34 ∧ (bytesOf s)[s.size - 1]?.getD 0 = 34 then comb (some []) (mid s) else none

theorem split_marks (L : List Int) (h2 : 2 ≤ L.length) (h0 : L[0]?.getD 0 = 34) (h1 : L[L.length - 1]?.getD 0 = 34) : L = 34 :: (L.take (L.length - 1)).drop 1 ++ [34] := by
  cases L with
  | nil => simp at h2
  | cons z r =>
    simp at h0 h1 h2
    subst h0
    have hr : r ≠ [] := by
      intro e; subst e; simp at h2
    have hl : 1 ≤ r.length := by cases r with | nil => exact absurd rfl hr | cons _ _ => simp
    have e : (34 :: r).take ((34 :: r).length - 1) = 34 :: r.take (r.length - 1) := by
      rw [List.length_cons, Nat.add_sub_cancel]
      obtain ⟨k, hk⟩ : ∃ k, r.length = k + 1 := ⟨r.length - 1, by omega⟩
      rw [hk]; rfl
    rw [e]
    have e2 : r.take (r.length - 1) ++ [34] = r := by
      have h3 : r[r.length - 1]? = some r[r.length - 1] := List.getElem?_eq_getElem (by omega)
      have h4 : (34 :: r)[r.length]? = r[r.length - 1]? := by
        obtain ⟨k, hk⟩ : ∃ k, r.length = k + 1 := ⟨r.length - 1, by omega⟩
        rw [hk]; rfl
      have h5 : r[r.length - 1] = 34 := by
        have : (34 :: r)[r.length]?.getD 0 = 34 := by
          simpa using h1
        rw [h4, h3] at this
        exact this
      have h6 := List.take_succ_eq_append_getElem (l := r) (i := r.length - 1) (by omega)
      rw [h5, show r.length - 1 + 1 = r.length from by omega, List.take_length] at h6
      exact h6.symm
    show 34 :: r = 34 :: (r.take (r.length - 1) ++ [34])
    rw [e2]

theorem uq_of_quote (s : ByteArray) (o : List Int) (hb : ∀ z ∈ o, 0 ≤ z ∧ z ≤ 255) (hl : o.length ≤ 4096) (h : bytesOf s = 34 :: qs o ++ [34]) : uq s = some o := by
  have hlen : s.size = (qs o).length + 2 := by rw [← bytesOf_len, h]; simp
  have hm : mid s = qs o := by
    unfold mid
    rw [h, hlen]
    have : (34 :: qs o ++ [34]).take ((qs o).length + 2 - 1) = 34 :: qs o := by
      rw [show (qs o).length + 2 - 1 = (34 :: qs o).length from by simp]
      exact List.take_left
    rw [this]
    rfl
  have h0 : (bytesOf s)[0]?.getD 0 = 34 := by rw [h]; rfl
  have h1 : (bytesOf s)[s.size - 1]?.getD 0 = 34 := by
    rw [h, hlen, show (qs o).length + 2 - 1 = (34 :: qs o).length from by simp, List.getElem?_append_right (Nat.le_refl _)]
    simp
  unfold uq
  rw [if_pos ⟨by omega, h0, h1⟩, hm]
  show (match dec ((qs o).length + 1) (qs o) with | none => none | some o => if ([] ++ o).length ≤ 4096 then some ([] ++ o) else none) = some o
  rw [dec_qs o hb _ (by omega)]
  simp [hl]
theorem quote_of_uq (s : ByteArray) (o : List Int) (h : uq s = some o) : bytesOf s = 34 :: qs o ++ [34] ∧ (∀ z ∈ o, 0 ≤ z ∧ z ≤ 255) ∧ o.length ≤ 4096 := by
  unfold uq at h
  split at h
  · rename_i hc
    obtain ⟨h2, h0, h1⟩ := hc
    have hs := split_marks (bytesOf s) (by rw [bytesOf_len]; exact h2) h0 (by rw [bytesOf_len]; exact h1)
    rw [bytesOf_len] at hs
    have e1 : comb (some []) (mid s) = match dec ((mid s).length + 1) (mid s) with | none => none | some o => if ([] ++ o).length ≤ 4096 then some ([] ++ o) else none := rfl
    rw [e1] at h
    cases hd : dec ((mid s).length + 1) (mid s) with
    | none => rw [hd] at h; cases h
    | some o' =>
      rw [hd] at h
      simp only [List.nil_append] at h
      split at h
      · rename_i hl
        cases h
        refine ⟨?_, ?_, hl⟩
        · rw [hs]
          have := dec_sound _ _ _ hd
          unfold mid at this
          rw [← this]
        · exact dec_byte _ _ _ (fun z hz => bytesOf_byte s z (List.mem_of_mem_take (List.mem_of_mem_drop hz))) hd
      · cases h
  · cases h
/-- What the model comes to. -/
theorem uq_model (s : ByteArray) (h2 : 2 ≤ s.size) : (qt (strOf (sd ((bytesOf s).drop 1))) = s → uq s = some (sd ((bytesOf s).drop 1))) ∧ (qt (strOf (sd ((bytesOf s).drop 1))) ≠ s → uq s = none) := by
  have hb : ∀ z ∈ sd ((bytesOf s).drop 1), 0 ≤ z ∧ z ≤ 255 := sd_byte _ _ (Nat.le_refl _) (fun z hz => bytesOf_byte s z (List.mem_of_mem_drop hz))
  constructor
  · intro h
    unfold qt at h
    rw [str_size] at h
    split at h
    · rename_i hl
      rw [bytes_str _ hb] at h
      have := congrArg bytesOf h
      rw [bytes_str _ (by
        intro z hz
        simp only [List.cons_append, List.mem_cons, List.mem_append] at hz
        rcases hz with e | e | e
        · omega
        · exact qs_byte _ hb z e
        · simp at e; omega)] at this
      exact uq_of_quote s _ hb hl this.symm
    · rw [← h] at h2
      have : ByteArray.empty.size = 0 := rfl
      omega
  · intro h
    cases hu : uq s with
    | none => rfl
    | some o =>
      exfalso
      obtain ⟨hq, hob, hl⟩ := quote_of_uq s o hu
      have e : (bytesOf s).drop 1 = qs o ++ [34] := by rw [hq]; rfl
      rw [e, sd_qs o hob] at h
      apply h
      unfold qt
      rw [str_size, if_pos hl, bytes_str o hob, ← hq, str_bytes]
theorem uq_long (s : ByteArray) (h : 12290 < s.size) : uq s = none := by
  cases hu : uq s with
  | none => rfl
  | some o =>
    exfalso
    obtain ⟨hq, _, hl⟩ := quote_of_uq s o hu
    have := qs_len o
    have e : s.size = (qs o).length + 2 := by rw [← bytesOf_len, hq]; simp
    omega
theorem uq_short (s : ByteArray) (h : s.size < 2) : uq s = none := by unfold uq; exact if_neg (by omega)
end Go.Proofs.YtceplgnijcdbfafDoor
