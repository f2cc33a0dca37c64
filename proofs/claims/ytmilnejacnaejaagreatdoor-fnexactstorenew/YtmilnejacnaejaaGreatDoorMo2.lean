/-
  What the program's GetVar answers, for every slice of bytes and every place; it changes nothing.
-/
import Derived.Test.YtmilnejacnaejaaGreatDoorMo1
import Derived.Laws.IdiomStrings
import Derived.Maps.AppendAt
import Derived.Deep.LoopGhost
namespace Go.Proofs.YtmilnejacnaejaaGreatDoor
open Go.RowKit
theorem gv_nat (zs : List Int) (k : Nat) : gv zs (k : Int) = gvGo 6 zs k 0 1 := by unfold gv; rw [if_neg (by omega), Int.toNat_natCast]
open Go.RowKit
def strOf (zs : List Int) : ByteArray := ⟨(zs.map fun z => UInt8.ofNat z.toNat).toArray⟩
theorem foldl_push (zs : List Int) : ∀ s : ByteArray, zs.foldl (fun r n => r.push (UInt8.ofNat n.toNat)) s = ⟨(s.data.toList ++ zs.map fun z => UInt8.ofNat z.toNat).toArray⟩ := by
  induction zs with
  | nil => intro s; simp
  | cons z zs ih =>
    intro s
    rw [List.foldl_cons, ih]
    simp [ByteArray.push]
theorem strOf_foldl (zs : List Int) : zs.foldl (fun r n => r.push (UInt8.ofNat n.toNat)) ByteArray.empty = strOf zs := by
  rw [foldl_push]
  simp only [strOf]
  rfl
theorem run_str {w : World} {a : Option Addr} {n c : Nat} {zs : List Int} (h : Rd w a n c zs) : (convert 71 9 (.slice a n c)).run Tryz.prog w = .ok (.string (strOf zs)) w := by
  rw [run_convert_bytes_string w _ _ _ a n c Tryz.underlying71 Tryz.underlying5 Tryz.underlying9]
  obtain ⟨h1, h2, h3, h30, h4, h5⟩ := h
  cases a with
  | none =>
    have hm : n = 0 := by
      rcases Nat.eq_zero_or_pos n with h | h
      · exact h
      · obtain ⟨b, off, e, _⟩ := h5 h
        cases e
    have hz : zs = [] := List.eq_nil_of_length_eq_zero (by omega)
    subst hz
    rfl
  | some x =>
    rw [run_bytesToString w x n c zs, strOf_foldl]
    have hl := run_firstCells_some (P := Tryz.prog) w 1 n x n c (zs.map (Value.int .u8)) (by simp [h1]) (by
        intro j u hu
        have hj : j < zs.length := by
          have := (List.getElem?_eq_some_iff.1 hu).1
          simpa using this
        obtain ⟨b, off, e, _, hc⟩ := h5 (by omega)
        cases e
        have := hc j (by omega)
        rw [Addr.add_lit, this]
        simp [hj] at hu
        simp [hj, hu])
    simpa [Builtin.firstCells] using hl
open Go.RowKit
open Go.RowKit
def gt (zs : List Int) (p : Int) : List Int × Int := if (gv zs p).2 < 0 ∨ (zs.length : Int) - (gv zs p).2 < (gv zs p).1 then ([], -1) else ((zs.drop (gv zs p).2.toNat).take (gv zs p).1.toNat, (gv zs p).2 + (gv zs p).1)
open Go.RowKit
theorem info_of {P : Program} {e : TypeId} {z : Value} {size bytes : Nat} (h : (P.info? e).map (fun i => (i.zero, i.size, i.bytes)) = some (some z, size, bytes)) : ∃ i, P.info? e = some i ∧ i.zero = some z ∧ i.size = size ∧ i.bytes = bytes := by
  obtain ⟨i, hi, hz⟩ := Option.map_eq_some_iff.1 h
  simp only [Prod.mk.injEq] at hz
  exact ⟨i, hi, hz⟩
theorem run_append_row_at {P : Program} {w : World} (base : Nat) (t ty e : TypeId) (i : TypeInfo) (z : Value) (size bytes : Nat) (ht : P.underlying t = some (.slice e)) (hi : P.info? e = some i) (hz : i.zero = some z)
    (hsize : i.size = size) (hby : i.bytes = bytes) (hzs : z.cells.size = size) (hsz : 0 < size) (v : Value) (n : Nat) (xs : List Value) (hown : w.ownsRow base e size v n xs)
    (S : Nat → Prop) (src : Value) (m : Nat) (news : List Value) (hsrc : Rw w S src m news) (hl : news.length = m * size) (h1 : ∀ u ∈ news, u.oneCell' = true)
    (h63 : n + m ≤ maxLen) (hbytes : (n + m) * bytes ≤ 140737488355328) (hbase : base ≤ w.heap.size) :
    ∃ v' w', (Builtin.append_ #[t, t] ty #[v, src]).run P w = .ok v' w' ∧ w'.ownsRow base e size v' (n + m) (xs ++ news) ∧ w.grownBy w' v.ownBlock ∧ (v'.ownBlock = v.ownBlock ∨ v'.ownBlock = some w.heap.size) := by
  obtain ⟨a, c, rfl, h2, h3, h4, hn, h5⟩ := hsrc
  by_cases hm : 0 < m
  · obtain ⟨b, off, rfl, hb, hS, hc⟩ := h5 hm
    obtain ⟨v', w', hr, ho, hg, _, ha⟩ := run_append_own_at w base t ty e i z size bytes ht hi hz hsize hby hzs hsz v n xs hown ⟨b, off, none⟩ m c news hl (fun j u hu => by rw [Addr.add_lit]; exact hc j u hu) h1 h63 hbytes hbase
    exact ⟨v', w', hr, ho, hg, ha⟩
  · obtain rfl : m = 0 := by omega
    obtain rfl := h4 rfl
    cases a with
    | some ad =>
      obtain ⟨v', w', hr, ho, hg, _, ha⟩ := run_append_own_at w base t ty e i z size bytes ht hi hz hsize hby hzs hsz v n xs hown ad 0 c [] hl (fun j u hu => by simp at hu) h1 h63 hbytes hbase
      exact ⟨v', w', hr, ho, hg, ha⟩
    | none =>
      obtain rfl := hn rfl
      have hrun := run_append_owned_none (P := P) (w := w) base t ty e i size ht hi v n xs hown
      exact ⟨v, w, hrun, by simpa using hown, ⟨rfl, rfl, rfl, Nat.le_refl _, fun _ _ _ => rfl⟩, .inl rfl⟩
theorem wpList_append_row_at {P : Program} {w : World} {ops : Array Oper} {rest : List Oper} {o : Oper} {a : Act} {Q : Exit → Act → World → Prop} (hgd : o.guard = none) (s x : Operand) (t : TypeId)
    (ho : o.op = .call { callee := .builtin .append, args := #[s, x], argTypes := #[t, t] })
    (base : Nat) (e : TypeId) (i : TypeInfo) (z : Value) (size bytes : Nat) (ht : P.underlying t = some (.slice e)) (hi : P.info? e = some i) (hz : i.zero = some z)
    (hsize : i.size = size) (hby : i.bytes = bytes) (hzs : z.cells.size = size) (hsz : 0 < size) (v : Value) (n : Nat) (xs : List Value) (hs : a.eval s = v) (hown : w.ownsRow base e size v n xs)
    (S : Nat → Prop) (src : Value) (m : Nat) (news : List Value) (hx : a.eval x = src) (hsrc : Rw w S src m news) (hl : news.length = m * size) (h1 : ∀ u ∈ news, u.oneCell' = true)
    (h63 : n + m ≤ maxLen) (hbytes : (n + m) * bytes ≤ 140737488355328) (hbase : base ≤ w.heap.size)
    (h : ∀ v' w', w'.ownsRow base e size v' (n + m) (xs ++ news) → w.grownBy w' v.ownBlock → (v'.ownBlock = v.ownBlock ∨ v'.ownBlock = some w.heap.size) → wpList P ops Q rest (a.put o.dst v') w') : wpList P ops Q (o :: rest) a w := by
  refine wpList_plain hgd fun K hK => ?_
  obtain ⟨v', w', hr, h2, h3, h4⟩ := run_append_row_at (P := P) (w := w) base t o.type e i z size bytes ht hi hz hsize hby hzs hsz v n xs hown S src m news hsrc hl h1 h63 hbytes hbase
  unfold Oper.wp execOp
  simp only [ho, resolve, invoke, builtin, Sem.run_bind, Sem.run_pure, Result.andThen_ok, List.map_toArray, List.map_cons, List.map_nil, hs, hx, hr]
  exact hK _ _ (h v' w' h2 h3 h4)
open Go.RowKit
def zAt (zs : List Int) (i : Nat) : Int := zs[i]?.getD 0
theorem strOf_eq {xs ys : List Int} (hx : ∀ z ∈ xs, 0 ≤ z ∧ z ≤ 255) (hy : ∀ z ∈ ys, 0 ≤ z ∧ z ≤ 255) (h : strOf xs = strOf ys) : xs = ys := by
  have key : ∀ (o : List Int), (∀ z ∈ o, 0 ≤ z ∧ z ≤ 255) → bytesOf (strOf o) = o := by
    intro o ho
    simp only [bytesOf, strOf, List.map_map]
    conv => rhs; rw [← List.map_id o]
    refine List.map_congr_left fun z hz => ?_
    have := ho z hz
    simp
    omega
  rw [← key xs hx, ← key ys hy, h]
set_option maxHeartbeats 800000 in
theorem same_any (a b : Option Addr) (n m c d : Nat) (xs ys : List Int) (w : World) (hx : Rd w a n c xs) (hy : Rd w b m d ys) :
    Calls Tryz.prog 196 #[.slice a n c, .slice b m d] w fun e w' => e = .returned (.bool (decide (xs = ys))) ∧ w = w' := by
  have h1 := run_str hx
  have h2 := run_str hy
  have b1 := at_byte hx.2.2.2.2.1
  have b2 := at_byte hy.2.2.2.2.1
  by_cases e : xs = ys
  · subst e
    generalize strOf xs = s at *
    rw [decide_eq_true rfl]
    clear b1 b2 hx hy
    go_enter Tryz.func196, Tryz.ntmps196
    go_wp2
    go_ret
    exact ⟨rfl, rfl⟩
  · have hne : ((strOf xs).toList == (strOf ys).toList) = false := by
      rw [beq_eq_false_iff_ne]
      exact fun h => e (strOf_eq b1 b2 (str_ext h))
    rw [decide_eq_false e]
    generalize strOf xs = s at *
    generalize strOf ys = t at *
    clear b1 b2 hx hy e
    go_enter Tryz.func196, Tryz.ntmps196
    go_wp2
    go_ret
    exact ⟨rfl, rfl⟩
open Go.RowKit
def cdStep (zs : List Int) (B : Bool) (p : PG) (at' : Int) : PG × Int :=
  if B = true then (⟨p.keys ++ [strOf (gt zs at').1], p.vals, p.kids ++ [(gv zs (gt zs at').2).1]⟩, (gv zs (gt zs at').2).2)
  else (⟨p.keys ++ [strOf (gt zs at').1], p.vals ++ [strOf (gt zs (gt zs at').2).1], p.kids⟩, (gt zs (gt zs at').2).2)
def cdGo (zs : List Int) (B : Bool) (n : Int) : Nat → Nat → PG → Int → PG
  | 0, _, p, _ => p
  | f + 1, i, p, a => if (i : Int) < n ∧ i ≤ 4 ∧ 0 ≤ a then cdGo zs B n f (i + 1) (cdStep zs B p a).1 (cdStep zs B p a).2 else p
def cd (zs : List Int) : PG :=
  if zAt zs 0 = 66 then
    (if 0 ≤ (gv zs 1).2 then cdGo zs true (gv zs 1).1 6 0 ⟨[], [], [(gv zs (gv zs 1).2).1]⟩ (gv zs (gv zs 1).2).2 else cdGo zs true (gv zs 1).1 6 0 ⟨[], [], []⟩ (gv zs 1).2)
  else cdGo zs false (gv zs 1).1 6 0 ⟨[], [], []⟩ (gv zs 1).2
def prd (zs : List Int) : Option PG := if zs.length = 512 ∧ (zAt zs 0 = 76 ∨ zAt zs 0 = 66) ∧ pgBytes (cd zs) = some zs then some (cd zs) else none
theorem cdGo_stop (zs : List Int) (B : Bool) (n : Int) (f i : Nat) (p : PG) (a : Int) (h : ¬ ((i : Int) < n ∧ i ≤ 4 ∧ 0 ≤ a)) : cdGo zs B n f i p a = p := by
  cases f with
  | zero => rfl
  | succ f => rw [cdGo, if_neg h]
theorem cdGo_on (zs : List Int) (B : Bool) (n : Int) (f i : Nat) (p : PG) (a : Int) (h : (i : Int) < n ∧ i ≤ 4 ∧ 0 ≤ a) : cdGo zs B n (f + 1) i p a = cdGo zs B n f (i + 1) (cdStep zs B p a).1 (cdStep zs B p a).2 := by rw [cdGo, if_pos h]
structure Pr1 (w v : World) (kv vv iv : Value) (p : PG) : Prop where
  be : Below w.heap.size w v
  rb : Bk v w.heap.size 93 [.slice none 0 0, .slice none 0 0, .slice none 0 0]
  bk : Bk v (w.heap.size + 1) 93 [kv, vv, iv]
  hk : v.ownsRow 0 9 1 kv p.keys.length (p.keys.map Value.string)
  hv : v.ownsRow 0 9 1 vv p.vals.length (p.vals.map Value.string)
  hi : v.ownsRow 0 3 1 iv p.kids.length (p.kids.map (Value.int .i64))
  lo : ∀ y, (kv.ownBlock = some y ∨ vv.ownBlock = some y ∨ iv.ownBlock = some y) → w.heap.size + 1 < y
  ap : ∀ y, (kv.ownBlock = some y → vv.ownBlock ≠ some y ∧ iv.ownBlock ≠ some y) ∧ (vv.ownBlock = some y → iv.ownBlock ≠ some y)
open Go.RowKit
theorem pgBytes_some {p : PG} {bs : List Int} (h : pgBytes p = some bs) : (∀ z ∈ bs, 0 ≤ z ∧ z ≤ 255) ∧ bs.length = 512 := by
  unfold pgBytes at h
  split at h
  · rename_i hok
    cases h
    have hF := pgOk_facts hok
    have hl := pgBody_len hF p.keys.length (Nat.le_refl _)
    have hn := hF.nk
    have hr : (pgRaw p).length ≤ 512 := by show (pgBody p p.keys.length).length ≤ 512; omega
    refine ⟨byte_append (pgBody_byte hF _ (Nat.le_refl _)) (fun z hz => by have := List.eq_of_mem_replicate hz; omega), ?_⟩
    rw [pgFull, List.length_append, List.length_replicate]
    omega
  · cases h
theorem encF_down (f : Nat) : ∀ n : Int, n < bnd f → encF (f + 1) n = encF f n := by
  induction f with
  | zero => intro n h; rw [encF_small _ n (by simpa [bnd] using h), encF_small _ n (by simpa [bnd] using h)]
  | succ f ih =>
    intro n h
    by_cases hn : 128 ≤ n
    · rw [encF_big _ n hn, encF_big _ n hn, ih (n / 128) (bnd_down f n h)]
    · rw [encF_small _ n (by omega), encF_small _ n (by omega)]
theorem at_here (pre : List Int) (z : Int) (r : List Int) : (pre ++ z :: r)[pre.length]?.getD 0 = z := by simp
theorem not_bad {r q u : Int} (hs : r + q * u ≤ 1099511627775) (hz : q = 0 → ¬ 1 < u) : ¬ (1099511627775 < r + q * u ∨ (q = 0 ∧ 1 < u)) := by
  rintro (h | ⟨h, h'⟩)
  · omega
  · exact hz h h'
theorem gvGo_enc (f' : Nat) : ∀ (f : Nat) (pre rest : List Int) (q r u : Int), 0 ≤ q → q < bnd f' → f' < f → r + q * u ≤ 1099511627775 → (q = 0 → ¬ 1 < u) →
    gvGo f (pre ++ encF f' q ++ rest) pre.length r u = (r + q * u, ((pre.length + (encF f' q).length : Nat) : Int)) := by
  induction f' with
  | zero =>
    intro f pre rest q r u h0 hq hf hs hz
    obtain ⟨g, rfl⟩ : ∃ g, f = g + 1 := ⟨f - 1, by omega⟩
    have e : pre ++ encF 0 q ++ rest = pre ++ q :: rest := by simp [encF]
    have hq' : q < 128 := hq
    rw [e, gvGo_good g _ pre.length r u (by simp) (by rw [at_here]; exact hq') (by rw [at_here]; exact not_bad hs hz), at_here]
    simp [encF]
  | succ f' ih =>
    intro f pre rest q r u h0 hq hf hs hz
    obtain ⟨g, rfl⟩ : ∃ g, f = g + 1 := ⟨f - 1, by omega⟩
    by_cases hb : 128 ≤ q
    · rw [encF_big f' q hb]
      have e : pre ++ (128 + q % 128) :: encF f' (q / 128) ++ rest = pre ++ (128 + q % 128) :: (encF f' (q / 128) ++ rest) := by simp
      have e2 : pre ++ (128 + q % 128) :: encF f' (q / 128) ++ rest = (pre ++ [128 + q % 128]) ++ encF f' (q / 128) ++ rest := by simp
      have hm : q * u = q % 128 * u + q / 128 * (u * 128) := by
        have : q = q % 128 + 128 * (q / 128) := by omega
        rw [Int.mul_comm u 128, ← Int.mul_assoc, ← Int.add_mul]
        congr 1
        omega
      have hk : pre.length < (pre ++ (128 + q % 128) :: (encF f' (q / 128) ++ rest)).length := by simp
      rw [e, gvGo_more g _ pre.length r u hk (by rw [at_here]; omega), at_here, ← e, e2]
      have hl : pre.length + 1 = (pre ++ [128 + q % 128]).length := by simp
      rw [hl, ih g (pre ++ [128 + q % 128]) rest (q / 128) (r + (128 + q % 128 - 128) * u) (u * 128) (by omega) (bnd_down f' q hq) (by omega) (by
        rw [show 128 + q % 128 - 128 = q % 128 from by omega]; omega) (by intro h; omega)]
      rw [show 128 + q % 128 - 128 = q % 128 from by omega]
      simp only [Prod.mk.injEq]
      constructor
      · omega
      · simp; omega
    · have e : pre ++ encF (f' + 1) q ++ rest = pre ++ q :: rest := by rw [encF_small _ q (by omega)]; simp
      rw [e, gvGo_good g _ pre.length r u (by simp) (by rw [at_here]; omega) (by rw [at_here]; exact not_bad hs hz), at_here, encF_small _ q (by omega)]
      simp
theorem gv_enc (pre rest : List Int) (n : Int) (h0 : 0 ≤ n) (h1 : n ≤ 1099511627775) : gv (pre ++ enc n ++ rest) (pre.length : Int) = (n, ((pre.length + (enc n).length : Nat) : Int)) := by
  have e : enc n = encF 5 n := encF_down 5 n (by simp [bnd]; omega)
  rw [gv_nat, e, gvGo_enc 5 6 pre rest n 0 1 h0 (by simp [bnd]; omega) (by omega) (by omega) (by omega)]
  simp
open Go.RowKit
theorem gt_rest (pre zs rest : List Int) (h : zs.length ≤ 1048576) : gt (pre ++ enc (zs.length : Int) ++ zs ++ rest) (pre.length : Int) = (zs, ((pre ++ enc (zs.length : Int) ++ zs).length : Int)) := by
  have hg := gv_enc pre (zs ++ rest) (zs.length : Int) (by omega) (by omega)
  have e : pre ++ enc (zs.length : Int) ++ zs ++ rest = pre ++ enc (zs.length : Int) ++ (zs ++ rest) := by simp
  have hlen : (pre ++ enc (zs.length : Int) ++ (zs ++ rest)).length = pre.length + (enc (zs.length : Int)).length + (zs.length + rest.length) := by simp only [List.length_append]
  rw [e, gt, hg]
  simp only
  rw [if_neg (by rw [hlen]; omega)]
  have hd : ((pre ++ enc (zs.length : Int) ++ (zs ++ rest)).drop ((pre.length + (enc (zs.length : Int)).length : Nat) : Int).toNat) = zs ++ rest := by
    rw [Int.toNat_natCast, show pre.length + (enc (zs.length : Int)).length = (pre ++ enc (zs.length : Int)).length by simp, List.drop_left]
  rw [hd, Int.toNat_natCast, List.take_left]
  simp only [List.length_append, Prod.mk.injEq, true_and]
  omega
theorem strOf_bytesOf (s : ByteArray) : strOf (bytesOf s) = s := by
  apply ByteArray.ext
  simp only [strOf, bytesOf, List.map_map]
  have : (List.map ((fun z : Int => UInt8.ofNat z.toNat) ∘ fun b : UInt8 => ((b.toNat : Nat) : Int)) s.data.toList) = s.data.toList := by
    conv => rhs; rw [← List.map_id s.data.toList]
    refine List.map_congr_left fun b _ => ?_
    simp
  rw [this]
theorem body_split (p : PG) (j : Nat) : ∀ m, ∃ R, pgBody p (j + m) = pgBody p j ++ R
  | 0 => ⟨[], by simp⟩
  | m + 1 => by
    obtain ⟨R, h⟩ := body_split p j m
    exact ⟨R ++ pgPart p (j + m), by rw [← Nat.add_assoc, pgBody, h, List.append_assoc]⟩
theorem sAt_take {l : List ByteArray} {j : Nat} (h : j < l.length) : l.take j ++ [sAt l j] = l.take (j + 1) := by
  rw [List.take_succ_eq_append_getElem h]; simp [sAt, h]
theorem iAt_take {l : List Int} {j : Nat} (h : j < l.length) : l.take j ++ [iAt l j] = l.take (j + 1) := by
  rw [List.take_succ_eq_append_getElem h]; simp [iAt, h]
theorem PG.ext' {p : PG} {a b : List ByteArray} {c : List Int} (h1 : a = p.keys) (h2 : b = p.vals) (h3 : c = p.kids) : (⟨a, b, c⟩ : PG) = p := by
  cases p; simp at h1 h2 h3; simp [h1, h2, h3]
theorem cd_leaf {p : PG} {zs rest : List Int} (hF : PgF p) (h0 : p.kids.length = 0) (hz : zs = pgRaw p ++ rest) : ∀ m j, j + m = p.keys.length → cdGo zs false (p.keys.length : Int) (6 - j) j ⟨p.keys.take j, p.vals.take j, []⟩ ((pgBody p j).length : Int) = p
  | 0, j, hj => by
    obtain ⟨hv, _⟩ := hF.lf h0
    rw [cdGo_stop _ _ _ _ _ _ _ (by omega)]
    exact PG.ext' (List.take_of_length_le (by omega)) (List.take_of_length_le (by omega)) (List.eq_nil_of_length_eq_zero h0).symm
  | m + 1, j, hj => by
    obtain ⟨hv, hvs⟩ := hF.lf h0
    have hn := hF.nk
    have hk := hF.ks j (by omega)
    have hvj := hvs j (by omega)
    obtain ⟨R, hR⟩ := body_split p (j + 1) m
    have e1 : zs = pgBody p j ++ (enc ((bytesOf (sAt p.keys j)).length : Int) ++ bytesOf (sAt p.keys j) ++ (enc ((bytesOf (sAt p.vals j)).length : Int) ++ bytesOf (sAt p.vals j))) ++ (R ++ rest) := by
      rw [hz, pgRaw, ← hj, show j + (m + 1) = j + 1 + m by omega, hR, pgBody, pgPart, if_pos h0, bytesOf_len, bytesOf_len]
      simp only [List.append_assoc]
    have g1 : gt zs ((pgBody p j).length : Int) = (bytesOf (sAt p.keys j), ((pgBody p j ++ enc ((bytesOf (sAt p.keys j)).length : Int) ++ bytesOf (sAt p.keys j)).length : Int)) := by
      have := gt_rest (pgBody p j) (bytesOf (sAt p.keys j)) (enc ((bytesOf (sAt p.vals j)).length : Int) ++ bytesOf (sAt p.vals j) ++ (R ++ rest)) (by rw [bytesOf_len]; omega)
      rw [← this, e1]
      simp only [List.append_assoc]
    have g2 : gt zs ((pgBody p j ++ enc ((bytesOf (sAt p.keys j)).length : Int) ++ bytesOf (sAt p.keys j)).length : Int) = (bytesOf (sAt p.vals j), ((pgBody p (j + 1)).length : Int)) := by
      have := gt_rest (pgBody p j ++ enc ((bytesOf (sAt p.keys j)).length : Int) ++ bytesOf (sAt p.keys j)) (bytesOf (sAt p.vals j)) (R ++ rest) (by rw [bytesOf_len]; omega)
      have e2 : pgBody p (j + 1) = pgBody p j ++ enc ((bytesOf (sAt p.keys j)).length : Int) ++ bytesOf (sAt p.keys j) ++ enc ((bytesOf (sAt p.vals j)).length : Int) ++ bytesOf (sAt p.vals j) := by
        rw [pgBody, pgPart, if_pos h0, bytesOf_len, bytesOf_len]
        simp only [List.append_assoc]
      rw [e2, ← this, e1]
      simp only [List.append_assoc]
    have st : cdStep zs false ⟨p.keys.take j, p.vals.take j, []⟩ ((pgBody p j).length : Int) = (⟨p.keys.take (j + 1), p.vals.take (j + 1), []⟩, ((pgBody p (j + 1)).length : Int)) := by
      rw [cdStep, if_neg (by simp), g1]
      simp only
      rw [g2, strOf_bytesOf, strOf_bytesOf, sAt_take (by omega), sAt_take (by omega)]
    rw [show 6 - j = (6 - (j + 1)) + 1 by omega, cdGo_on _ _ _ _ _ _ _ ⟨by omega, by omega, by omega⟩, st]
    exact cd_leaf hF h0 hz m (j + 1) (by omega)
theorem cd_branch {p : PG} {zs rest : List Int} (hF : PgF p) (h0 : ¬ p.kids.length = 0) (hv0 : p.vals = []) (hz : zs = pgRaw p ++ rest) : ∀ m j, j + m = p.keys.length → cdGo zs true (p.keys.length : Int) (6 - j) j ⟨p.keys.take j, [], p.kids.take (j + 1)⟩ ((pgBody p j).length : Int) = p
  | 0, j, hj => by
    obtain ⟨hv, _⟩ := hF.br h0
    rw [cdGo_stop _ _ _ _ _ _ _ (by omega)]
    exact PG.ext' (List.take_of_length_le (by omega)) hv0.symm (List.take_of_length_le (by omega))
  | m + 1, j, hj => by
    obtain ⟨hv, hvs⟩ := hF.br h0
    have hn := hF.nk
    have hk := hF.ks j (by omega)
    have hvj := hvs (j + 1) (by omega)
    obtain ⟨R, hR⟩ := body_split p (j + 1) m
    have e1 : zs = pgBody p j ++ (enc ((bytesOf (sAt p.keys j)).length : Int) ++ bytesOf (sAt p.keys j) ++ enc (iAt p.kids (j + 1))) ++ (R ++ rest) := by
      rw [hz, pgRaw, ← hj, show j + (m + 1) = j + 1 + m by omega, hR, pgBody, pgPart, if_neg h0, bytesOf_len]
      simp only [List.append_assoc]
    have g1 : gt zs ((pgBody p j).length : Int) = (bytesOf (sAt p.keys j), ((pgBody p j ++ enc ((bytesOf (sAt p.keys j)).length : Int) ++ bytesOf (sAt p.keys j)).length : Int)) := by
      have := gt_rest (pgBody p j) (bytesOf (sAt p.keys j)) (enc (iAt p.kids (j + 1)) ++ (R ++ rest)) (by rw [bytesOf_len]; omega)
      rw [← this, e1]
      simp only [List.append_assoc]
    have g2 : gv zs ((pgBody p j ++ enc ((bytesOf (sAt p.keys j)).length : Int) ++ bytesOf (sAt p.keys j)).length : Int) = (iAt p.kids (j + 1), ((pgBody p (j + 1)).length : Int)) := by
      have := gv_enc (pgBody p j ++ enc ((bytesOf (sAt p.keys j)).length : Int) ++ bytesOf (sAt p.keys j)) (R ++ rest) (iAt p.kids (j + 1)) (by omega) (by omega)
      have e2 : pgBody p (j + 1) = pgBody p j ++ enc ((bytesOf (sAt p.keys j)).length : Int) ++ bytesOf (sAt p.keys j) ++ enc (iAt p.kids (j + 1)) := by
        rw [pgBody, pgPart, if_neg h0, bytesOf_len]
        simp only [List.append_assoc]
      have e3 : ((pgBody p j ++ enc ((bytesOf (sAt p.keys j)).length : Int) ++ bytesOf (sAt p.keys j)).length + (enc (iAt p.kids (j + 1))).length : Nat) = (pgBody p (j + 1)).length := by rw [e2]; exact List.length_append.symm
      rw [e3] at this
      rw [← this, e1]
      simp only [List.append_assoc]
    have st : cdStep zs true ⟨p.keys.take j, [], p.kids.take (j + 1)⟩ ((pgBody p j).length : Int) = (⟨p.keys.take (j + 1), [], p.kids.take (j + 1 + 1)⟩, ((pgBody p (j + 1)).length : Int)) := by
      rw [cdStep, if_pos rfl, g1]
      simp only
      rw [g2, strOf_bytesOf, sAt_take (by omega), iAt_take (by omega)]
    rw [show 6 - j = (6 - (j + 1)) + 1 by omega, cdGo_on _ _ _ _ _ _ _ ⟨by omega, by omega, by omega⟩, st]
    exact cd_branch hF h0 hv0 hz m (j + 1) (by omega)
theorem cd_full {p : PG} (hok : pgOk p = true) : cd (pgFull p) = p ∧ (zAt (pgFull p) 0 = 76 ∨ zAt (pgFull p) 0 = 66) := by
  have hF := pgOk_facts hok
  have hn := hF.nk
  obtain ⟨R, hR⟩ := body_split p 0 p.keys.length
  rw [Nat.zero_add] at hR
  have hz : pgFull p = pgRaw p ++ List.replicate (512 - (pgRaw p).length) 0 := rfl
  have hh : pgFull p = pgHead p ++ (R ++ List.replicate (512 - (pgRaw p).length) 0) := by
    have hr : pgRaw p = pgHead p ++ R := hR
    rw [hz]
    generalize List.replicate (512 - (pgRaw p).length) 0 = Z
    rw [hr, List.append_assoc]
  generalize R ++ List.replicate (512 - (pgRaw p).length) 0 = R2 at hh
  by_cases h0 : p.kids.length = 0
  · have hhd : pgHead p = [76] ++ enc (p.keys.length : Int) := by rw [pgHead, if_pos h0, if_pos h0]; simp
    have hz0 : zAt (pgFull p) 0 = 76 := by rw [hh, hhd]; rfl
    have hgv : gv (pgFull p) 1 = ((p.keys.length : Int), ((pgHead p).length : Int)) := by
      have := gv_enc [76] R2 (p.keys.length : Int) (by omega) (by omega)
      rw [hh, hhd]
      simpa [Int.add_comm] using this
    refine ⟨?_, .inl hz0⟩
    rw [cd, if_neg (by rw [hz0]; decide), hgv]
    have := cd_leaf hF h0 hz p.keys.length 0 (by omega)
    simpa [pgBody] using this
  · have hbr := hF.br h0
    have hk0 := hbr.2 0 (by omega)
    have hhd : pgHead p = [66] ++ enc (p.keys.length : Int) ++ enc (iAt p.kids 0) := by rw [pgHead, if_neg h0, if_neg h0]
    have hz0 : zAt (pgFull p) 0 = 66 := by rw [hh, hhd]; rfl
    have hgv : gv (pgFull p) 1 = ((p.keys.length : Int), (([66] ++ enc (p.keys.length : Int)).length : Int)) := by
      have := gv_enc [66] (enc (iAt p.kids 0) ++ R2) (p.keys.length : Int) (by omega) (by omega)
      rw [hh, hhd]
      simpa [Int.add_comm] using this
    have hgv2 : gv (pgFull p) (([66] ++ enc (p.keys.length : Int)).length : Int) = (iAt p.kids 0, ((pgHead p).length : Int)) := by
      have := gv_enc ([66] ++ enc (p.keys.length : Int)) R2 (iAt p.kids 0) (by omega) (by omega)
      rw [hh, hhd, this]
      simp
      omega
    have hv0 : p.vals = [] := by
      have h1 := hok
      simp only [pgOk, Bool.and_eq_true] at h1
      have h2 := h1.2
      rw [if_neg h0] at h2
      simp only [pgBranch, Bool.and_eq_true, decide_eq_true_eq] at h2
      exact List.eq_nil_of_length_eq_zero h2.2.2
    refine ⟨?_, .inr hz0⟩
    rw [cd, if_pos hz0, hgv]
    simp only
    rw [if_pos (by omega), hgv2]
    simp only
    have := cd_branch hF h0 hv0 hz p.keys.length 0 (by omega)
    have e : p.kids.take (0 + 1) = [iAt p.kids 0] := by
      rw [← iAt_take (by omega)]; rfl
    rw [e] at this
    simpa [pgBody] using this
theorem pgFull_len {p : PG} (hok : pgOk p = true) : (pgFull p).length = 512 := (pgBytes_some (p := p) (by rw [pgBytes, if_pos hok])).2
theorem prd_iff (zs : List Int) (p : PG) : prd zs = some p ↔ pgBytes p = some zs := by
  constructor
  · intro h
    unfold prd at h
    split at h
    · rename_i hc
      cases h
      exact hc.2.2
    · cases h
  · intro h
    have h2 := h
    unfold pgBytes at h2
    split at h2
    · rename_i hok
      cases h2
      obtain ⟨h3, h4⟩ := cd_full hok
      rw [prd, if_pos ⟨pgFull_len hok, h4, by rw [h3]; exact h⟩, h3]
    · cases h2
open Go.RowKit
def Uf (w : World) (b : Nat) : Prop := ∃ xs T, w.heap[b]? = some (.cells xs T (0, 0))
theorem Bk.uf {w : World} {g : Nat} {T : TypeId} {xs : List Value} (h : Bk w g T xs) : Uf w g := ⟨_, _, h⟩
open Go.RowKit
abbrev DW := Int × List Int
def byt (zs : List Int) : Prop := ∀ i : Nat, 0 ≤ zs[i]?.getD 0 ∧ zs[i]?.getD 0 ≤ 255
def shAt (ss : List (List Int)) (i : Nat) : List Int := ss[i]?.getD []
def dwAt (ds : List DW) (i : Nat) : DW := ds[i]?.getD (0, [])
def uAt (V : List Value) (i : Nat) : Value := V[i]?.getD (.slice none 0 0)
def xAt (U : List (Int × Value)) (i : Nat) : Int × Value := U[i]?.getD (0, .slice none 0 0)
theorem uAt_some {V : List Value} {i : Nat} (h : i < V.length) : V[i]? = some (uAt V i) := by simp [uAt, h]
def By (w : World) (S : Nat → Prop) (v : Value) (zs : List Int) : Prop := Rw w S v zs.length (zs.map (Value.int .u8)) ∧ byt zs
theorem By.to {w w' : World} {S R : Nat → Prop} {v : Value} {zs : List Int} (h : By w S v zs) (ho : Only R w w') (hd : ∀ b, S b → b < w.heap.size → ¬ R b) : By w' S v zs := ⟨h.1.to ho hd, h.2⟩
theorem By.mono {w : World} {S R : Nat → Prop} {v : Value} {zs : List Int} (h : By w S v zs) (hd : ∀ b, S b → b < w.heap.size → R b) : By w R v zs := ⟨h.1.mono hd, h.2⟩
theorem By.below {w w' : World} {S : Nat → Prop} {v : Value} {zs : List Int} (h : By w S v zs) (hb : Below w.heap.size w w') : By w' S v zs := ⟨h.1.below hb, h.2⟩
theorem By.len {w : World} {S : Nat → Prop} {a : Option Addr} {n c : Nat} {zs : List Int} (h : By w S (.slice a n c) zs) : n = zs.length ∧ n ≤ c ∧ c ≤ 9223372036854775807 := Rw.len h.1
theorem By.rd {w : World} {S : Nat → Prop} {a : Option Addr} {n c : Nat} {zs : List Int} (h : By w S (.slice a n c) zs) (hn : n ≤ 1048576) : Rd w a n c zs := by
  obtain ⟨h1, h2, h3⟩ := h.len
  refine ⟨h1, h2, h3, by omega, h.2, fun hp => ?_⟩
  obtain ⟨b, off, e, _, hb, hc⟩ := Rw.at h.1 hp
  exact ⟨b, off, e, hb, fun i hi => hc i _ (by simp [show i < zs.length by omega])⟩
theorem by_ob {w : World} {B : Nat} {v : Value} {zs : List Int} (h : Ob w B v zs) (hb : byt zs) {S : Nat → Prop} (hS : ∀ k, v.ownBlock = some k → B ≤ k → k < w.heap.size → S k) : By w S v zs := ⟨rw_own h hS, hb⟩
def Shr (w : World) (S : Nat → Prop) (v : Value) (ss : List (List Int)) : Prop := ∃ V : List Value, V.length = ss.length ∧ Rw w S v ss.length V ∧ ∀ i, i < ss.length → By w S (uAt V i) (shAt ss i)
theorem Shr.to {w w' : World} {S R : Nat → Prop} {v : Value} {ss : List (List Int)} (h : Shr w S v ss) (ho : Only R w w') (hd : ∀ b, S b → b < w.heap.size → ¬ R b) : Shr w' S v ss := by
  obtain ⟨V, h1, h2, h3⟩ := h
  exact ⟨V, h1, h2.to ho hd, fun i hi => (h3 i hi).to ho hd⟩
theorem Shr.mono {w : World} {S R : Nat → Prop} {v : Value} {ss : List (List Int)} (h : Shr w S v ss) (hd : ∀ b, S b → b < w.heap.size → R b) : Shr w R v ss := by
  obtain ⟨V, h1, h2, h3⟩ := h
  exact ⟨V, h1, h2.mono hd, fun i hi => (h3 i hi).mono hd⟩
theorem Shr.below {w w' : World} {S : Nat → Prop} {v : Value} {ss : List (List Int)} (h : Shr w S v ss) (hb : Below w.heap.size w w') : Shr w' S v ss := h.to (only_of_below hb (fun _ => False)) (fun _ _ _ h => h)
theorem Shr.len {w : World} {S : Nat → Prop} {a : Option Addr} {n c : Nat} {ss : List (List Int)} (h : Shr w S (.slice a n c) ss) : n = ss.length ∧ n ≤ c ∧ c ≤ 9223372036854775807 := by
  obtain ⟨V, h1, h2, h3⟩ := h
  exact Rw.len h2
theorem Rw.sliceOf {w : World} {S : Nat → Prop} {v : Value} {n : Nat} {xs : List Value} (h : Rw w S v n xs) : ∃ a c, v = .slice a n c := by
  obtain ⟨a, c, h, _⟩ := h
  exact ⟨a, c, h⟩
theorem Shr.at {w : World} {S : Nat → Prop} {a : Option Addr} {n c : Nat} {ss : List (List Int)} (h : Shr w S (.slice a n c) ss) (hp : 0 < n) : ∃ b off, a = some ⟨b, off, none⟩ ∧ S b ∧ b < w.heap.size ∧ ∀ i, i < n → ∃ ap np cp,
    w.cell? ⟨b, off + i, none⟩ = some (.slice ap np cp) ∧ By w S (.slice ap np cp) (shAt ss i) := by
  obtain ⟨V, h1, h2, h3⟩ := h
  have hn := (Rw.len h2).1
  obtain ⟨b, off, e1, e2, e3, e4⟩ := h2.at hp
  refine ⟨b, off, e1, e2, e3, fun i hi => ?_⟩
  have k1 := h3 i (by omega)
  have d0 := e4 i _ (uAt_some (by omega))
  obtain ⟨ap, cp, g0⟩ := k1.1.sliceOf
  rw [g0] at d0 k1
  exact ⟨ap, _, cp, d0, k1⟩
def wcs : List (Int × Value) → List Value
  | [] => []
  | p :: ps => .int .i64 p.1 :: p.2 :: wcs ps
theorem wcs_length (ps : List (Int × Value)) : (wcs ps).length = ps.length * 2 := by
  induction ps with
  | nil => rfl
  | cons p ps ih => simp only [wcs, List.length_cons, ih]; omega
theorem wcs_append (ps qs : List (Int × Value)) : wcs (ps ++ qs) = wcs ps ++ wcs qs := by
  induction ps with
  | nil => rfl
  | cons p ps ih => simp only [wcs, List.cons_append, ih]
theorem wcs_at (ps : List (Int × Value)) : ∀ i, i < ps.length → (wcs ps)[i * 2]? = some (.int .i64 (xAt ps i).1) ∧ (wcs ps)[i * 2 + 1]? = some (xAt ps i).2 := by
  induction ps with
  | nil => intro i h; exact absurd h (Nat.not_lt_zero _)
  | cons p ps ih =>
    intro i h
    cases i with
    | zero => exact ⟨rfl, rfl⟩
    | succ i =>
      have := ih i (by simpa using h)
      have e : (i + 1) * 2 = i * 2 + 2 := by omega
      rw [e]
      exact this
theorem wcs_set (ps : List (Int × Value)) (p : Int × Value) : ∀ j, j < ps.length → wcs (ps.set j p) = ((wcs ps).set (j * 2) (.int .i64 p.1)).set (j * 2 + 1) p.2 := by
  induction ps with
  | nil => intro j h; exact absurd h (Nat.not_lt_zero _)
  | cons q ps ih =>
    intro j h
    cases j with
    | zero => rfl
    | succ j =>
      have := ih j (by simpa using h)
      rw [show (j + 1) * 2 = j * 2 + 2 by omega, show j * 2 + 2 + 1 = j * 2 + 1 + 2 by omega]
      show .int .i64 q.1 :: q.2 :: wcs (ps.set j p) = _
      rw [this]
      rfl
def Wrr (w : World) (S : Nat → Prop) (v : Value) (ds : List DW) : Prop := ∃ U : List (Int × Value), U.length = ds.length ∧ Rw w S v ds.length (wcs U) ∧ ∀ i, i < ds.length → (xAt U i).1 = (dwAt ds i).1 ∧ By w S (xAt U i).2 (dwAt ds i).2
theorem Wrr.to {w w' : World} {S R : Nat → Prop} {v : Value} {ds : List DW} (h : Wrr w S v ds) (ho : Only R w w') (hd : ∀ b, S b → b < w.heap.size → ¬ R b) : Wrr w' S v ds := by
  obtain ⟨V, h1, h2, h3⟩ := h
  exact ⟨V, h1, h2.to ho hd, fun i hi => ⟨(h3 i hi).1, (h3 i hi).2.to ho hd⟩⟩
theorem Wrr.mono {w : World} {S R : Nat → Prop} {v : Value} {ds : List DW} (h : Wrr w S v ds) (hd : ∀ b, S b → b < w.heap.size → R b) : Wrr w R v ds := by
  obtain ⟨V, h1, h2, h3⟩ := h
  exact ⟨V, h1, h2.mono hd, fun i hi => ⟨(h3 i hi).1, (h3 i hi).2.mono hd⟩⟩
theorem Wrr.below {w w' : World} {S : Nat → Prop} {v : Value} {ds : List DW} (h : Wrr w S v ds) (hb : Below w.heap.size w w') : Wrr w' S v ds := h.to (only_of_below hb (fun _ => False)) (fun _ _ _ h => h)
theorem Wrr.len {w : World} {S : Nat → Prop} {a : Option Addr} {n c : Nat} {ds : List DW} (h : Wrr w S (.slice a n c) ds) : n = ds.length ∧ n ≤ c ∧ c ≤ 9223372036854775807 := by
  obtain ⟨V, h1, h2, h3⟩ := h
  exact Rw.len h2
theorem Wrr.at {w : World} {S : Nat → Prop} {a : Option Addr} {n c : Nat} {ds : List DW} (h : Wrr w S (.slice a n c) ds) (hp : 0 < n) : ∃ b off, a = some ⟨b, off, none⟩ ∧ S b ∧ b < w.heap.size ∧ ∀ i, i < n → ∃ ap np cp,
    w.cell? ⟨b, off + i * 2, none⟩ = some (.int .i64 (dwAt ds i).1) ∧ w.cell? ⟨b, off + i * 2 + 1, none⟩ = some (.slice ap np cp) ∧ By w S (.slice ap np cp) (dwAt ds i).2 := by
  obtain ⟨V, h1, h2, h3⟩ := h
  have hn := (Rw.len h2).1
  obtain ⟨b, off, e1, e2, e3, e4⟩ := h2.at hp
  refine ⟨b, off, e1, e2, e3, fun i hi => ?_⟩
  obtain ⟨k0, k1⟩ := h3 i (by omega)
  obtain ⟨c0, c1⟩ := wcs_at V i (by omega)
  have d0 := e4 _ _ c0
  have d1 := e4 _ _ c1
  obtain ⟨ap, cp, g0⟩ := k1.1.sliceOf
  rw [g0] at d1 k1
  rw [k0] at d0
  exact ⟨ap, _, cp, d0, d1, k1⟩
structure DK where
  sh : List (List Int)
  dw : List DW
instance : DecidableEq DK := fun a b => decidable_of_iff (a.sh = b.sh ∧ a.dw = b.dw) (by cases a; cases b; simp)
structure Dk (w : World) (S : Nat → Prop) (sa : Option Addr) (sn sc : Nat) (da : Option Addr) (dn dc : Nat) (d : DK) : Prop where
  hs : Shr w S (.slice sa sn sc) d.sh
  hd : Wrr w S (.slice da dn dc) d.dw
theorem Dk.to {w w' : World} {S R : Nat → Prop} {sa : Option Addr} {sn sc : Nat} {da : Option Addr} {dn dc : Nat} {d : DK} (h : Dk w S sa sn sc da dn dc d) (ho : Only R w w') (hd : ∀ b, S b → b < w.heap.size → ¬ R b) : Dk w' S sa sn sc da dn dc d := ⟨h.hs.to ho hd, h.hd.to ho hd⟩
theorem Dk.mono {w : World} {S R : Nat → Prop} {sa : Option Addr} {sn sc : Nat} {da : Option Addr} {dn dc : Nat} {d : DK} (h : Dk w S sa sn sc da dn dc d) (hd : ∀ b, S b → b < w.heap.size → R b) : Dk w R sa sn sc da dn dc d := ⟨h.hs.mono hd, h.hd.mono hd⟩
theorem Dk.below {w w' : World} {S : Nat → Prop} {sa : Option Addr} {sn sc : Nat} {da : Option Addr} {dn dc : Nat} {d : DK} (h : Dk w S sa sn sc da dn dc d) (hb : Below w.heap.size w w') : Dk w' S sa sn sc da dn dc d := ⟨h.hs.below hb, h.hd.below hb⟩
def smallD (d : DK) : Prop := (∀ i, i < d.sh.length → (shAt d.sh i).length ≤ 1048576) ∧ ∀ i, i < d.dw.length → (dwAt d.dw i).2.length ≤ 1048576
def shtOk (l : List Int) : Bool := decide (l.length = 0) || decide (l.length = 512)
def wrtOk (n : Nat) (p : DW) : Bool := decide (0 ≤ p.1) && decide (p.1 < (n : Int)) && decide (p.2.length = 512)
def dkOk (d : DK) : Bool := decide (2 ≤ d.sh.length) && decide (d.sh.length ≤ 400) && decide (d.dw.length ≤ 500) && d.sh.all shtOk && d.dw.all (wrtOk d.sh.length)
theorem allD_at {α : Type} {f : α → Bool} {l : List α} (z : α) : l.all f = true ↔ ∀ i, i < l.length → f (l[i]?.getD z) = true := by
  rw [List.all_eq_true]
  constructor
  · intro h i hi
    rw [List.getElem?_eq_getElem hi]
    exact h _ (List.getElem_mem hi)
  · intro h x hx
    obtain ⟨i, hi, rfl⟩ := List.mem_iff_getElem.1 hx
    have := h i hi
    rwa [List.getElem?_eq_getElem hi] at this
open Go.RowKit
set_option linter.unusedVariables false
def pairsP (p : PG) : List PB := (List.range p.keys.length).map fun i => (sAt p.keys i, sAt p.vals i)
theorem pairsP_len (p : PG) : (pairsP p).length = p.keys.length := by simp [pairsP]
def nodeP (p : PG) : NB := if p.kids.length = 0 then ⟨pairsP p, [], []⟩ else ⟨[], p.keys, []⟩
def pgAt (ss : List (List Int)) (t : Int) : Option PG := if 0 ≤ t ∧ t < (ss.length : Int) then prd (shAt ss t.toNat) else none
def addK (ns : List NB) (me : Nat) (q : Int) : List NB := ns.set me ⟨(nAt ns me).ps, (nAt ns me).keys, (nAt ns me).kids ++ [q]⟩
theorem addK_len (ns : List NB) (me : Nat) (q : Int) : (addK ns me q).length = ns.length := by simp [addK]
abbrev LS := List NB × List Int
def ldK (F : Int → LS → Option LS) (me : Nat) : List Int → LS → Option LS
  | [], s => some s
  | k :: ks, s => match F k (addK s.1 me (s.1.length : Int), s.2) with
    | none => none
    | some s' => ldK F me ks s'
def ldV (ss : List (List Int)) : Nat → Int → LS → Option LS
  | 0, _, _ => none
  | f + 1, t, s => match pgAt ss t with
    | none => none
    | some p => if t ∈ s.2 ∨ 400 ≤ s.1.length then none else ldK (ldV ss f) s.1.length p.kids (s.1 ++ [nodeP p], s.2 ++ [t])
theorem ldV_page {ss : List (List Int)} {f : Nat} {t : Int} {s : LS} (h : pgAt ss t = none) : ldV ss f t s = none := by
  cases f with
  | zero => rfl
  | succ f => rw [ldV, h]
theorem ldV_bad {ss : List (List Int)} {f : Nat} {t : Int} {s : LS} (h : t ∈ s.2 ∨ 400 ≤ s.1.length) : ldV ss f t s = none := by
  cases f with
  | zero => rfl
  | succ f =>
    rw [ldV]
    cases pgAt ss t with
    | none => rfl
    | some p => simp only; rw [if_pos h]
theorem ldV_go {ss : List (List Int)} {f : Nat} {t : Int} {s : LS} {p : PG} (h : pgAt ss t = some p) (h2 : ¬ (t ∈ s.2 ∨ 400 ≤ s.1.length)) : ldV ss (f + 1) t s = ldK (ldV ss f) s.1.length p.kids (s.1 ++ [nodeP p], s.2 ++ [t]) := by
  rw [ldV, h]
  simp only
  rw [if_neg h2]
theorem ldK_len {F : Int → LS → Option LS} (hF : ∀ t s s', F t s = some s' → s.1.length + 1 ≤ s'.1.length ∧ s'.1.length ≤ 400) (me : Nat) : ∀ (ks : List Int) (s s' : LS), s.1.length ≤ 400 → ldK F me ks s = some s' → s.1.length ≤ s'.1.length ∧ s'.1.length ≤ 400
  | [], s, s', h4, h => by cases h; exact ⟨Nat.le_refl _, h4⟩
  | k :: ks, s, s', h4, h => by
    rw [ldK] at h
    cases e : F k (addK s.1 me (s.1.length : Int), s.2) with
    | none => rw [e] at h; cases h
    | some s2 =>
      rw [e] at h
      have h1 := hF _ _ _ e
      simp only [addK_len] at h1
      have h2 := ldK_len hF me ks s2 s' h1.2 h
      omega
theorem ldV_len (ss : List (List Int)) : ∀ (f : Nat) (t : Int) (s s' : LS), ldV ss f t s = some s' → s.1.length + 1 ≤ s'.1.length ∧ s'.1.length ≤ 400
  | 0, t, s, s', h => by cases h
  | f + 1, t, s, s', h => by
    rw [ldV] at h
    cases e : pgAt ss t with
    | none => rw [e] at h; cases h
    | some p =>
      rw [e] at h
      simp only at h
      by_cases hb : t ∈ s.2 ∨ 400 ≤ s.1.length
      · rw [if_pos hb] at h; cases h
      · rw [if_neg hb] at h
        have := ldK_len (ldV_len ss f) s.1.length p.kids _ s' (by simp; omega) h
        simpa using this
theorem prd_ok {zs : List Int} {p : PG} (h : prd zs = some p) : pgOk p = true := by
  have := (prd_iff zs p).1 h
  unfold pgBytes at this
  by_cases e : pgOk p = true
  · exact e
  · rw [if_neg e] at this; cases this
theorem pgOk_shape {p : PG} (h : pgOk p = true) : (p.kids.length = 0 → p.vals.length = p.keys.length) ∧ p.keys.length ≤ 4 ∧ p.kids.length ≤ 4 ∧ ∀ k ∈ p.kids, 2 ≤ k ∧ k < 400 := by
  simp only [pgOk, Bool.and_eq_true] at h
  obtain ⟨-, h⟩ := h
  split at h
  · rename_i h0
    simp only [pgLeaf, Bool.and_eq_true, decide_eq_true_eq] at h
    exact ⟨fun _ => h.2.2, by omega, by omega, fun k hk => by rw [List.eq_nil_of_length_eq_zero h0] at hk; cases hk⟩
  · rename_i h0
    simp only [pgBranch, Bool.and_eq_true, decide_eq_true_eq] at h
    refine ⟨fun e => absurd e h0, by omega, by omega, fun k hk => ?_⟩
    have := List.all_eq_true.1 h.1 k hk
    simpa [kidOk] using this
open Go.RowKit
set_option maxHeartbeats 2000000 in
theorem eqStringS_at (S S' : Nat → Prop) (a a' : Option Addr) (n n' c c' : Nat) (l l' : List ByteArray) (w : World) (h : Sr w S (.slice a n c) l) (h' : Sr w S' (.slice a' n' c') l') :
    Calls Tryz.prog 185 #[.slice a n c, .slice a' n' c'] w fun e w' => e = .returned (.bool (decide (l = l'))) ∧ Below w.heap.size w w' := by
  obtain ⟨hn, hnc, hcc⟩ := Rw.len h
  obtain ⟨hn', hnc', hcc'⟩ := Rw.len h'
  have HN := hid hn
  have HN' := hid hn'
  have H0 := hid h
  have H0' := hid h'
  clear h h' hn hn'
  by_cases hne : n = n'
  · subst hne
    have hz : ((n : Int) != (n : Int)) = false := by simp
    go_enter Tryz.func185, Tryz.ntmps185
    go_wp2
    go_loopw [5] (fun i wr => ∃ k : Nat, k ≤ n ∧ i = .int .i64 k ∧ Hid (Below w.heap.size w wr) ∧ Hid (l.take k = l'.take k)) (fun i _ => n - (intOf i).toNat)
    case atStart => exact ⟨0, Nat.zero_le _, rfl, Below.refl _ _, rfl⟩
    case round =>
      obtain ⟨k, hk, rfl, HB, HT⟩ := hrel
      by_cases hlt : k < n
      · have hlt' : (k : Int) < (n : Int) := by omega
        have HP := hid (H0.out.below HB.out)
        have HP' := hid (H0'.out.below HB.out)
        obtain ⟨b, off, rfl, _, hbw, hcell⟩ := HP.out.at (by omega)
        obtain ⟨b', off', rfl, _, hbw', hcell'⟩ := HP'.out.at (by omega)
        have hck := hcell k hlt
        have hck' := hcell' k hlt
        have HS : Hid (sAt l k = sAt l' k → l.take (k + 1) = l'.take (k + 1)) := by
          intro e
          have hl : k < l.length := by rw [← HN.out]; exact hlt
          have hl' : k < l'.length := by rw [← HN'.out]; exact hlt
          rw [List.take_succ_eq_append_getElem hl, List.take_succ_eq_append_getElem hl', HT.out]
          simp [sAt, hl, hl'] at e
          rw [e]
        have HF : Hid (sAt l k ≠ sAt l' k → decide (l = l') = false) := by
          intro e
          rw [decide_eq_false_iff_not]
          intro e'
          exact e (by rw [e'])
        clear hcell hcell' hbw hbw' HP HP' HT
        generalize sAt l k = ck at *
        generalize sAt l' k = ck' at *
        by_cases he : ck = ck'
        · have HS1 := hid (HS.out he)
          subst he
          skip
          clear HS HF
          go_wp2
          go_quiet (fail)
          go_wp2
          go_roundw
          case rel => exact ⟨k + 1, by omega, by go_num, Below.drewN' HB.out _, HS1.out⟩
          case measure => simp [intOf]; omega
        · have HF1 := hid (HF.out he)
          have t := str_beq he
          clear he HS HF
          go_wp2
          go_quiet (fail)
          go_wp2
          go_ret
          exact ⟨by rw [HF1.out]; rfl, Below.drewN' HB.out _⟩
      · have HF : Hid (decide (l = l') = true) := by
          show decide (l = l') = true
          have hk' : k = n := by omega
          have e := HT.out
          have e1 : l.length ≤ k := by rw [← HN.out]; omega
          have e2 : l'.length ≤ k := by rw [← HN'.out]; omega
          rw [List.take_of_length_le e1, List.take_of_length_le e2] at e
          simp [e]
        clear HT
        go_wp2
        go_ret
        exact ⟨by rw [HF.out]; rfl, HB.out⟩
  · have hz : ((n : Int) != (n' : Int)) = true := by simp; omega
    have HF : Hid (decide (l = l') = false) := by
      show decide (l = l') = false
      rw [decide_eq_false_iff_not]
      intro e
      exact hne (by rw [HN.out, HN'.out, e])
    clear hne
    go_enter Tryz.func185, Tryz.ntmps185
    go_wp2
    go_ret
    exact ⟨by rw [HF.out]; rfl, Below.refl _ _⟩
set_option maxHeartbeats 2000000 in
theorem eqIntS_at (S S' : Nat → Prop) (a a' : Option Addr) (n n' c c' : Nat) (l l' : List Int) (w : World) (h : Ir w S (.slice a n c) l) (h' : Ir w S' (.slice a' n' c') l') :
    Calls Tryz.prog 17 #[.slice a n c, .slice a' n' c'] w fun e w' => e = .returned (.bool (decide (l = l'))) ∧ Below w.heap.size w w' := by
  obtain ⟨hn, hnc, hcc⟩ := Rw.len h
  obtain ⟨hn', hnc', hcc'⟩ := Rw.len h'
  have HN := hid hn
  have HN' := hid hn'
  have H0 := hid h
  have H0' := hid h'
  clear h h' hn hn'
  by_cases hne : n = n'
  · subst hne
    have hz : ((n : Int) != (n : Int)) = false := by simp
    go_enter Tryz.func17, Tryz.ntmps17
    go_wp2
    go_loopw [5] (fun i wr => ∃ k : Nat, k ≤ n ∧ i = .int .i64 k ∧ Hid (Below w.heap.size w wr) ∧ Hid (l.take k = l'.take k)) (fun i _ => n - (intOf i).toNat)
    case atStart => exact ⟨0, Nat.zero_le _, rfl, Below.refl _ _, rfl⟩
    case round =>
      obtain ⟨k, hk, rfl, HB, HT⟩ := hrel
      by_cases hlt : k < n
      · have hlt' : (k : Int) < (n : Int) := by omega
        have HP := hid (H0.out.below HB.out)
        have HP' := hid (H0'.out.below HB.out)
        obtain ⟨b, off, rfl, _, hbw, hcell⟩ := HP.out.at (by omega)
        obtain ⟨b', off', rfl, _, hbw', hcell'⟩ := HP'.out.at (by omega)
        have hck := hcell k hlt
        have hck' := hcell' k hlt
        have HS : Hid (iAt l k = iAt l' k → l.take (k + 1) = l'.take (k + 1)) := by
          intro e
          have hl : k < l.length := by rw [← HN.out]; exact hlt
          have hl' : k < l'.length := by rw [← HN'.out]; exact hlt
          rw [List.take_succ_eq_append_getElem hl, List.take_succ_eq_append_getElem hl', HT.out]
          simp [iAt, hl, hl'] at e
          rw [e]
        have HF : Hid (iAt l k ≠ iAt l' k → decide (l = l') = false) := by
          intro e
          rw [decide_eq_false_iff_not]
          intro e'
          exact e (by rw [e'])
        clear hcell hcell' hbw hbw' HP HP' HT
        generalize iAt l k = ck at *
        generalize iAt l' k = ck' at *
        by_cases he : ck = ck'
        · have HS1 := hid (HS.out he)
          subst he
          have t : (ck != ck) = false := by simp
          clear HS HF
          go_wp2
          go_quiet (fail)
          go_wp2
          go_roundw
          case rel => exact ⟨k + 1, by omega, by go_num, Below.drewN' HB.out _, HS1.out⟩
          case measure => simp [intOf]; omega
        · have HF1 := hid (HF.out he)
          have t : (ck != ck') = true := by simp [he]
          clear he HS HF
          go_wp2
          go_quiet (fail)
          go_wp2
          go_ret
          exact ⟨by rw [HF1.out]; rfl, Below.drewN' HB.out _⟩
      · have HF : Hid (decide (l = l') = true) := by
          show decide (l = l') = true
          have hk' : k = n := by omega
          have e := HT.out
          have e1 : l.length ≤ k := by rw [← HN.out]; omega
          have e2 : l'.length ≤ k := by rw [← HN'.out]; omega
          rw [List.take_of_length_le e1, List.take_of_length_le e2] at e
          simp [e]
        clear HT
        go_wp2
        go_ret
        exact ⟨by rw [HF.out]; rfl, HB.out⟩
  · have hz : ((n : Int) != (n' : Int)) = true := by simp; omega
    have HF : Hid (decide (l = l') = false) := by
      show decide (l = l') = false
      rw [decide_eq_false_iff_not]
      intro e
      exact hne (by rw [HN.out, HN'.out, e])
    clear hne
    go_enter Tryz.func17, Tryz.ntmps17
    go_wp2
    go_ret
    exact ⟨by rw [HF.out]; rfl, Below.refl _ _⟩
open Go.RowKit
instance : DecidableEq PG := fun a b => decidable_of_iff (a.keys = b.keys ∧ a.vals = b.vals ∧ a.kids = b.kids) (by cases a; cases b; simp)
open Go.RowKit
theorem strOf_size (o : List Int) : (strOf o).size = o.length := by
  show (strOf o).data.size = o.length
  simp [strOf]
theorem rd_lit (w : World) (z : Int) (h0 : 0 ≤ z) (h1 : z ≤ 255) : Rd (w.alloc (.cells #[.int .u8 z] 5)) (some ⟨w.heap.size, 0, none⟩) 1 1 [z] := by
  have := rd_new w [z] (by simp) (fun i => by cases i <;> simp <;> omega)
  simpa [byteVals] using this
def mtG : Nat → Nat → ByteArray → ByteArray
  | 0, _, acc => acc
  | f + 1, k, acc => if k = 0 then acc else mtG f (k / 10) (strOf [48 + ((k % 10 : Nat) : Int)] ++ acc)
theorem mtG_end (f : Nat) (acc : ByteArray) : mtG f 0 acc = acc := by cases f <;> simp [mtG]
theorem mtG_step (f k : Nat) (acc : ByteArray) (h : 0 < k) : mtG (f + 1) k acc = mtG f (k / 10) (strOf [48 + ((k % 10 : Nat) : Int)] ++ acc) := by
  simp [mtG]; omega
def mt (k : Nat) : ByteArray := ⟨#[109]⟩ ++ mtG k k ⟨#[]⟩
set_option maxHeartbeats 4000000 in
theorem markText_any (k : Nat) (w : World) (h0 : 0 < k) (h1 : k ≤ 1152921504606846976) : Calls Tryz.prog 71 #[.int .i64 k] w fun e w' => e = .returned (.string (mt k)) ∧ Below w.heap.size w w' := by
  have h0' : ¬ (k : Int) ≤ 0 := by omega
  go_enter Tryz.func71, Tryz.ntmps71
  go_wp2_with fail
  go_loopw [0, 3] (fun x s wr => ∃ (j f : Nat) (acc : ByteArray), x = .int .i64 j ∧ s = .string acc ∧ j ≤ f ∧ Hid (mtG f j acc = mtG k k ⟨#[]⟩) ∧ j + acc.size ≤ k ∧ Hid (Below w.heap.size w wr)) (fun x _ _ => (intOf x).toNat)
  case atStart => exact ⟨k, k, ⟨#[]⟩, rfl, rfl, Nat.le_refl _, rfl, Nat.le_refl _, Below.refl _ _⟩
  case round =>
    obtain ⟨j, f, acc, rfl, rfl, hjf, HM, hsz, HB⟩ := hrel
    rcases Nat.eq_zero_or_pos j with rfl | hj
    · rw [mtG_end] at HM
      have hcat : (⟨#[109]⟩ : ByteArray).size = 1 := rfl
      have HE : Hid (⟨#[109]⟩ ++ acc = mt k) := by show ⟨#[109]⟩ ++ acc = mt k; rw [HM.out]; rfl
      go_wp2
      go_ret
      exact ⟨by rw [HE.out]; rfl, HB.out⟩
    · obtain ⟨f, rfl⟩ : ∃ g, f = g + 1 := ⟨f - 1, by omega⟩
      rw [mtG_step f j acc hj] at HM
      have hj' : (0 : Int) < (j : Int) := by omega
      obtain ⟨z, hz⟩ : ∃ z : Nat, z = j % 10 := ⟨_, rfl⟩
      obtain ⟨q, hq⟩ : ∃ q : Nat, q = j / 10 := ⟨_, rfl⟩
      rw [← hz, ← hq] at HM
      have hz1 : z < 10 := by omega
      have hmod : (j : Int).tmod 10 = (z : Int) := by rw [Int.tmod_eq_emod_of_nonneg (by omega)]; omega
      have hdiv : (j : Int).tdiv 10 = (q : Int) := by rw [Int.tdiv_eq_ediv_of_nonneg (by omega)]; omega
      have hqj : q < j := by omega
      have hq2 : q + 1 ≤ j := by omega
      clear hz hq
      have hst := run_str (rd_lit wr (48 + (z : Int)) (by omega) (by omega))
      have hts := strOf_size [48 + (z : Int)]
      simp only [List.length_cons, List.length_nil] at hts
      generalize strOf [48 + (z : Int)] = t at *
      go_wp2
      go_roundw
      case rel => exact ⟨q, f, t ++ acc, by go_num, rfl, by omega, HM, by rw [ByteArray.size_append]; omega, HB.out.alloc HB.out.size _⟩
      case measure => simp [intOf]; omega
theorem markText_at (k : Nat) (z : Int) (hz : z = k) (w : World) (h0 : 0 < k) (h1 : k ≤ 1152921504606846976) : Calls Tryz.prog 71 #[.int .i64 z] w fun e w' => e = .returned (.string (mt k)) ∧ Below w.heap.size w w' := by
  subst hz
  exact markText_any k w h0 h1
open Go.RowKit
open Go.RowKit
open Go.RowKit
def tAt (ks : List T) (i : Nat) : T := ks[i]?.getD default
def ptr (b : Nat) : Value := .pointer (some ⟨b, 0, none⟩)
def ptrs (A : Nat → Nat) (n : Nat) : List Value := (List.range n).map fun i => ptr (A i)
theorem ptrs_at (A : Nat → Nat) (n i : Nat) (h : i < n) : (ptrs A n)[i]? = some (ptr (A i)) := by simp [ptrs, h]
inductive Limb (w : World) : (Nat → Prop) → Nat → T → Prop
  | mk (S : Nat → Prop) (b : Nat) (pv kv : Value) (ps : List PB) (ks : List T) (A : Nat → Nat) (SS : Nat → Nat → Prop)
      (hb : S b) (hB : Bk w b 219 [pv, kv])
      (hP : w.ownsRow 0 161 2 pv ps.length (pcs ps)) (hK : w.ownsRow 0 166 1 kv ks.length (ptrs A ks.length))
      (hPS : ∀ x, pv.ownBlock = some x → S x ∧ x ≠ b) (hKS : ∀ x, kv.ownBlock = some x → S x ∧ x ≠ b ∧ pv.ownBlock ≠ some x)
      (hSS : ∀ i, i < ks.length → ∀ x, SS i x → S x ∧ x ≠ b ∧ pv.ownBlock ≠ some x ∧ kv.ownBlock ≠ some x)
      (hD : ∀ i j, i < ks.length → j < ks.length → i ≠ j → ∀ x, SS i x → ¬ SS j x)
      (hk : ∀ i, i < ks.length → Limb w (SS i) (A i) (tAt ks i)) : Limb w S b (.mk ps ks)
theorem Limb.to {w w' : World} {R : Nat → Prop} (ho : Only R w w') {S : Nat → Prop} {b : Nat} {t : T} (h : Limb w S b t) : (∀ x, S x → ¬ R x) → Limb w' S b t := by
  induction h with
  | mk S b pv kv ps ks A SS hb hB hP hK hPS hKS hSS hD hk ih =>
    intro hR
    exact .mk S b pv kv ps ks A SS hb (hB.to ho (hR b hb)) (own_kept hP ho fun k e => hR k (hPS k e).1) (own_kept hK ho fun k e => hR k (hKS k e).1) hPS hKS hSS hD
      (fun i hi => ih i hi (fun x hx => hR x (hSS i hi x hx).1))
theorem Limb.mono {w : World} {S S' : Nat → Prop} {b : Nat} {t : T} (h : Limb w S b t) (hS : ∀ x, S x → S' x) : Limb w S' b t := by
  cases h with
  | mk _ _ pv kv ps ks A SS hb hB hP hK hPS hKS hSS hD hk =>
    exact .mk S' b pv kv ps ks A SS (hS b hb) hB hP hK (fun x hx => ⟨hS x (hPS x hx).1, (hPS x hx).2⟩) (fun x hx => ⟨hS x (hKS x hx).1, (hKS x hx).2⟩) (fun i hi x hx => ⟨hS x (hSS i hi x hx).1, (hSS i hi x hx).2⟩) hD hk
theorem Limb.kept {w w' : World} {S : Nat → Prop} {b : Nat} {t : T} (h : Limb w S b t) (hb : Below w.heap.size w w') : Limb w' S b t := h.to (only_of_below hb (fun _ => False)) (fun _ _ h => h)
theorem own_max {w : World} {base : Nat} {e : TypeId} {size : Nat} {v : Value} {n : Nat} {xs : List Value} (h : w.ownsRow base e size v n xs) : n ≤ maxLen := by
  rcases h.2 with ⟨rfl, rfl⟩ | ⟨g, cap, cur, rfl, _, _, h5, h6, _⟩
  · exact Nat.zero_le _
  · exact Nat.le_trans h5 h6
theorem undrew (w : World) (q : Nat) : Below (w.drewN q).heap.size (w.drewN q) w := ⟨rfl, rfl, rfl, Nat.le_refl _, fun _ _ => rfl⟩
theorem Limb.see {w : World} {S : Nat → Prop} {b : Nat} {t : T} (h : Limb w S b t) : ∃ ap cp ak ck A, w.cell? ⟨b, 0, none⟩ = some (.slice ap t.ps.length cp) ∧ w.cell? ⟨b, 1, none⟩ = some (.slice ak t.ks.length ck) ∧
    Pr w S (.slice ap t.ps.length cp) t.ps ∧ Rw w S (.slice ak t.ks.length ck) t.ks.length (ptrs A t.ks.length) ∧ (∀ i, i < t.ks.length → ∃ S', (∀ x, S' x → S x) ∧ Limb w S' (A i) (tAt t.ks i)) ∧ t.ps.length ≤ maxLen ∧ t.ks.length ≤ maxLen := by
  cases h with
  | mk _ _ pv kv ps ks A SS hb hB hP hK hPS hKS hSS hD hk =>
    obtain ⟨ap, cp, rfl⟩ := own_shape hP
    obtain ⟨ak, ck, rfl⟩ := own_shape hK
    exact ⟨ap, cp, ak, ck, A, hB.cell (j := 0) rfl, hB.cell (j := 1) rfl, rw_own hP (fun k e _ _ => (hPS k e).1), rw_own hK (fun k e _ _ => (hKS k e).1), fun i hi => ⟨SS i, fun x hx => (hSS i hi x hx).1, hk i hi⟩, own_max hP, own_max hK⟩
theorem isLeaf_any (S : Nat → Prop) (b : Nat) (t : T) (w : World) (h : Limb w S b t) : Calls Tryz.prog 221 #[.pointer (some ⟨b, 0, none⟩)] w fun e w' => e = .returned (.bool (decide (t.ks.length = 0))) ∧ w' = w := by
  obtain ⟨ap, cp, ak, ck, A, c0, c1, _, _, _, _, _⟩ := h.see
  clear h
  generalize t.ks.length = n at *
  by_cases hn : n = 0
  · subst hn
    go_enter Tryz.func221, Tryz.ntmps221
    go_wp2
    go_ret
    exact ⟨rfl, rfl⟩
  · have HE : Hid (decide (n = 0) = false) := decide_eq_false hn
    have hn' : ((n : Int) == 0) = false := by simp; omega
    go_enter Tryz.func221, Tryz.ntmps221
    go_wp2
    go_ret
    exact ⟨by rw [HE.out]; rfl, rfl⟩
def T.bare (t : T) : Bool := decide (t.ps.length + t.ks.length = 0)
theorem isBare_any (S : Nat → Prop) (b : Nat) (t : T) (w : World) (h : Limb w S b t) (hs : t.ps.length + t.ks.length ≤ 1048576) : Calls Tryz.prog 193 #[.pointer (some ⟨b, 0, none⟩)] w fun e w' => e = .returned (.bool t.bare) ∧ ∃ q, w' = w.drewN q := by
  obtain ⟨ap, cp, ak, ck, A, c0, c1, _, _, _, _, _⟩ := h.see
  clear h
  have HE : t.bare = decide (t.ps.length + t.ks.length = 0) := rfl
  generalize t.ks.length = n at *
  generalize t.ps.length = m at *
  generalize t.bare = Z at *
  have hz : ((m : Int) + (n : Int) == 0) = Z := by
    rw [HE]
    by_cases h : m + n = 0
    · rw [decide_eq_true h]; simp; omega
    · rw [decide_eq_false h]; simp; omega
  clear HE
  have hw : IntKind.i64.wrap ((m : Int) + (n : Int)) = (m : Int) + (n : Int) := by rw [IntKind.wrap_i64]; omega
  go_enter Tryz.func193, Tryz.ntmps193
  go_wp2
  go_quiet (fail)
  go_wp2
  go_ret
  exact ⟨rfl, _, rfl⟩
def T.ne : T → Prop
  | .mk ps [] => ps ≠ []
  | .mk _ (k :: _) => k.ne
set_option maxHeartbeats 2000000 in
theorem least_any (S : Nat → Prop) (b : Nat) (t : T) (w : World) (h : Limb w S b t) (hne : t.ne) : Calls Tryz.prog 230 #[.pointer (some ⟨b, 0, none⟩)] w fun e w' => e = .returned (.string t.least) ∧ ∃ q, w' = w.drewN q := by
  have H0 := hid h
  have HE := hid hne
  clear h hne
  go_enter Tryz.func230, Tryz.ntmps230
  go_wp2_with fail
  go_loopg [0] t.lv (fun k p wr => ∃ (b' : Nat) (S' : Nat → Prop) (t' : T) (q : Nat), p = .pointer (some ⟨b', 0, none⟩) ∧ wr = w.drewN q ∧ Hid (Limb w S' b' t') ∧ Hid (t'.ne ∧ t'.least = t.least ∧ k = t'.lv))
  case atStart => exact ⟨b, S, t, 0, rfl, rfl, H0.out, HE.out, rfl, rfl⟩
  case round =>
    obtain ⟨b', S', t', q, rfl, rfl, HL, HT⟩ := hrel
    have HL1 := hid (HL.out.kept (Below.drewN' (Below.refl _ _) q))
    go_wp2_with fail
    refine (isLeaf_any S' b' t' _ HL1.out).mono ?_
    rintro e w1 ⟨rfl, rfl⟩
    obtain ⟨ps, ks⟩ := t'
    obtain ⟨ap, cp, ak, ck, A, c0, c1, hp, hk, hkid, _, _⟩ := HL1.out.see
    cases ks with
    | nil =>
      obtain ⟨p, ps', rfl⟩ : ∃ p ps', ps = p :: ps' := List.exists_cons_of_ne_nil HT.out.1
      obtain ⟨x, off, rfl, _, _, hc⟩ := hp.at (by simp [T.ps])
      have d0 := (hc 0 (by simp [T.ps])).1
      simp only [T.ps, T.ks, pAtB, Nat.zero_mul, Nat.add_zero, List.length_cons, List.length_nil, List.getElem?_cons_zero, Option.getD_some, decide_true] at *
      have HR : Hid (p.1 = t.least) := HT.out.2.1
      obtain ⟨p1, p2⟩ := p
      simp only at d0 HR
      clear hc hk hkid hp
      go_wp2
      go_ret
      exact ⟨by rw [← HR.out]; rfl, q, rfl⟩
    | cons k ks =>
      obtain ⟨x, off, rfl, _, _, hc⟩ := Rw.at hk (by simp [T.ks])
      have d0 := hc 0 _ (ptrs_at A _ 0 (by simp [T.ks]))
      obtain ⟨S1, _, hk0⟩ := hkid 0 (by simp [T.ks])
      have HK0 : Hid (Limb w S1 (A 0) k) := by
        have : tAt (T.mk ps (k :: ks)).ks 0 = k := rfl
        rw [this] at hk0
        exact hk0.kept (undrew w q)
      have hz : decide ((T.mk ps (k :: ks)).ks.length = 0) = false := rfl
      rw [hz]
      simp only [T.ps, T.ks, Nat.add_zero, List.length_cons, ptr] at *
      have hpos : (0 : Int) < (ks.length : Int) + 1 := by omega
      clear hc hk hkid hp hk0 hz
      go_wp2
      go_roundg k.lv
      case measure => have := HT.out.2.2; simp [T.lv] at this; omega
      case rel => exact ⟨A 0, S1, k, q, rfl, rfl, HK0.out, HT.out.1, HT.out.2.1, rfl⟩
def T.dpt (t : T) : Nat := if t.bare = true then 0 else t.lv
set_option maxHeartbeats 2000000 in
theorem depth_any (S : Nat → Prop) (b : Nat) (t : T) (w : World) (h : Limb w S b t) (hs : t.ps.length + t.ks.length ≤ 1048576) (hlv : t.lv ≤ 1048576) : Calls Tryz.prog 238 #[.pointer (some ⟨b, 0, none⟩)] w fun e w' => e = .returned (.int .i64 (t.dpt : Int)) ∧ ∃ q, w' = w.drewN q := by
  have H0 := hid h
  clear h
  have HD : Hid (t.dpt = if t.bare = true then 0 else t.lv) := rfl
  go_enter Tryz.func238, Tryz.ntmps238
  go_wp2_with fail
  refine (isBare_any S b t _ H0.out hs).mono ?_
  rintro e w0 ⟨rfl, q0, rfl⟩
  cases hbare : t.bare
  · have HD1 : Hid (t.dpt = t.lv) := by show _ = _; rw [HD.out, hbare]; rfl
    clear HD hbare
    go_wp2_with fail
    go_loopg [0, 3] t.lv (fun k p d wr => ∃ (b' : Nat) (S' : Nat → Prop) (t' : T) (q m : Nat), p = .pointer (some ⟨b', 0, none⟩) ∧ d = .int .i64 (m : Int) ∧ wr = w.drewN q ∧ Hid (Limb w S' b' t') ∧ Hid (t'.lv + m = t.lv + 1 ∧ k = t'.lv))
    case atStart => exact ⟨b, S, t, q0, 1, rfl, rfl, rfl, H0.out, rfl, rfl⟩
    case round =>
      obtain ⟨b', S', t', q, m, rfl, rfl, rfl, HL, HT⟩ := hrel
      have HL1 := hid (HL.out.kept (Below.drewN' (Below.refl _ _) q))
      go_wp2_with fail
      refine (isLeaf_any S' b' t' _ HL1.out).mono ?_
      rintro e w1 ⟨rfl, rfl⟩
      obtain ⟨ps, ks⟩ := t'
      obtain ⟨ap, cp, ak, ck, A, c0, c1, hp, hk, hkid, _, _⟩ := HL1.out.see
      cases ks with
      | nil =>
        have HR : Hid ((m : Int) = (t.dpt : Int)) := by
          show _ = _
          have := HT.out.1
          rw [HD1.out]
          simp [T.lv] at this
          omega
        clear hk hkid hp
        go_wp2
        go_ret
        exact ⟨by rw [← HR.out]; rfl, q, rfl⟩
      | cons k ks =>
        obtain ⟨x, off, rfl, _, _, hc⟩ := Rw.at hk (by simp [T.ks])
        have d0 := hc 0 _ (ptrs_at A _ 0 (by simp [T.ks]))
        obtain ⟨S1, _, hk0⟩ := hkid 0 (by simp [T.ks])
        have HK0 : Hid (Limb w S1 (A 0) k) := by
          have : tAt (T.mk ps (k :: ks)).ks 0 = k := rfl
          rw [this] at hk0
          exact hk0.kept (undrew w q)
        have hz : decide ((T.mk ps (k :: ks)).ks.length = 0) = false := rfl
        rw [hz]
        have hm : m ≤ 1048577 := by have := HT.out.1; simp [T.lv] at this; omega
        simp only [T.ps, T.ks, Nat.add_zero, List.length_cons, ptr] at *
        have hpos : (0 : Int) < (ks.length : Int) + 1 := by omega
        clear hc hk hkid hp hk0 hz
        go_wp2
        go_roundg k.lv
        case measure => have := HT.out.2; simp [T.lv] at this; omega
        case rel => exact ⟨A 0, S1, k, q, m + 1, rfl, by go_num, rfl, HK0.out, by have := HT.out.1; simp [T.lv] at this; omega, rfl⟩
  · have HD1 : Hid (t.dpt = 0) := by show _ = _; rw [HD.out, hbare]; rfl
    clear HD hbare
    go_wp2
    go_ret
    exact ⟨by rw [HD1.out]; rfl, q0, rfl⟩
open Go.RowKit
def Ow (w : World) (base : Nat) (v : Value) (l : List PB) : Prop := w.ownsRow base 161 2 v l.length (pcs l)
theorem Ow.to {w w' : World} {R : Nat → Prop} {base : Nat} {v : Value} {l : List PB} (h : Ow w base v l) (ho : Only R w w') (hR : ∀ k, v.ownBlock = some k → ¬ R k) : Ow w' base v l := own_kept h ho hR
theorem Ow.kept {w w' : World} {base : Nat} {v : Value} {l : List PB} (h : Ow w base v l) (hb : Below w.heap.size w w') : Ow w' base v l := h.to (only_of_below hb (fun _ => False)) (fun _ _ h => h)
theorem Ow.pr {w : World} {base : Nat} {v : Value} {l : List PB} (h : Ow w base v l) {S : Nat → Prop} (hS : ∀ k, v.ownBlock = some k → base ≤ k → k < w.heap.size → S k) : Pr w S v l := rw_own h hS
theorem Ow.shape' {w : World} {base : Nat} {v : Value} {l : List PB} (h : Ow w base v l) : ∃ a n c, v = .slice a n c ∧ Hid (n = l.length) := by
  obtain ⟨a, c, rfl⟩ := own_shape h
  exact ⟨a, _, c, rfl, rfl⟩
theorem ow_nil (w : World) (base : Nat) : Ow w base (.slice none 0 0) [] := World.ownsRow_nil w base _ _
theorem wpList_append_pairs {w : World} {ops : Array Oper} {rest : List Oper} {o : Oper} {a : Act} {Q : Exit → Act → World → Prop} (hgd : o.guard = none) (s x : Operand)
    (ho : o.op = .call { callee := .builtin .append, args := #[s, x], argTypes := #[95, 95] }) (base : Nat) (v : Value) (l : List PB) (hs : a.eval s = v) (hown : Ow w base v l)
    (S : Nat → Prop) (src : Value) (m : List PB) (hx : a.eval x = src) (hsrc : Pr w S src m) (hb : l.length + m.length ≤ 2097154) (hbase : base ≤ w.heap.size)
    (h : ∀ v' w', Ow w' base v' (l ++ m) → w.grownBy w' v.ownBlock → wpList Tryz.prog ops Q rest (a.put o.dst v') w') : wpList Tryz.prog ops Q (o :: rest) a w := by
  obtain ⟨i, hi, hz, hsz, hby⟩ := info_of infoPairI
  refine wpList_append_row hgd s x 95 ho base 161 i _ 2 32 Tryz.underlying95 hi hz hsz hby rfl (by decide) v l.length (pcs l) hs hown S src m.length (pcs m) hx hsrc (pcs_length m) (pcs_one m) (by unfold maxLen; omega) (by omega) hbase ?_
  intro v' w' h1 h2
  refine h v' w' ?_ h2
  unfold Ow
  rw [List.length_append, pcs_append]
  exact h1
theorem only_of_belowB {B : Nat} {w w' : World} (h : Below B w w') : Only (fun b => B ≤ b) w w' := ⟨h.os, h.tape, h.output, h.size, fun b _ hn => h.block b (by omega)⟩
theorem grown_belowB {w w' : World} {base : Nat} {v : Value} {l : List PB} (h : Ow w base v l) (hg : w.grownBy w' v.ownBlock) (hB : base ≤ w.heap.size) : Below base w w' := (Below.refl _ _).grown hg hB fun k hk => (World.ownsRow.lt h k hk).1
theorem allL_take (ks : List T) (k : Nat) (h : k < ks.length) : allL (ks.take (k + 1)) = allL (ks.take k) ++ (tAt ks k).all := by
  induction ks generalizing k with
  | nil => simp at h
  | cons x ks ih =>
    cases k with
    | zero => simp [allL, tAt]
    | succ k =>
      have := ih k (by simpa using h)
      simp only [List.take_succ_cons, allL, this, List.append_assoc]
      rfl
theorem allL_take_le (ks : List T) (k : Nat) : (allL (ks.take k)).length ≤ (allL ks).length := by
  induction ks generalizing k with
  | nil => simp [allL]
  | cons x ks ih =>
    cases k with
    | zero => simp [allL]
    | succ k =>
      have := ih k
      simp only [List.take_succ_cons, allL, List.length_append]
      omega
set_option maxHeartbeats 4000000 in
theorem all_any (t : T) : ∀ (S : Nat → Prop) (b : Nat) (w : World) (base : Nat) (v : Value) (l : List PB), Limb w S b t → (∀ x, S x → x < base) → base ≤ w.heap.size → Ow w base v l → l.length + t.all.length ≤ 1048576 →
    Calls Tryz.prog 176 #[.pointer (some ⟨b, 0, none⟩), v] w fun e w' => ∃ v', e = .returned v' ∧ Ow w' base v' (l ++ t.all) ∧ Below base w w' := by
  induction t using T.ind
  rename_i ps ks ih
  intro S b w base v l hL hS hbase hO hlen
  have H0 := hid hL
  have HO := hid hO
  have HS := hid hS
  have HIH := hid ih
  have HLE := hid hlen
  obtain ⟨ap, cp, ak, ck, A, c0, c1, hp, hk, hkid, _, _⟩ := hL.see
  have HP := hid hp
  have HK := hid hk
  obtain ⟨av, nv, cv, hv, HNV⟩ := hO.shape'
  have HLP : Hid (l.length + ps.length + (allL ks).length ≤ 1048576) := by
    show _ ≤ _
    have := hlen
    simp [T.all] at this
    omega
  simp only [T.ps, T.ks] at *
  clear hL hO hS ih hlen hp hk hkid
  subst hv
  go_enter Tryz.func176, Tryz.ntmps176
  go_wp2_with (at_builtin; refine wpList_append_pairs rfl _ _ rfl base _ l rfl HO.out S _ ps rfl HP.out ?b1 ?b2 ?_)
  case b1 => have := HLP.out; omega
  case b2 => exact hbase
  intro v1 w1 hO1 hg1
  have HB1 := hid (grown_belowB HO.out hg1 hbase)
  have HO1 := hid hO1
  have HL1 := hid (H0.out.to (only_of_belowB HB1.out) (fun x hx h => by have := HS.out x hx; omega))
  obtain ⟨a1, n1, cc1, hv1, HN1⟩ := hO1.shape'
  clear hO1 hg1
  subst hv1
  clear c0 c1 HP HK
  obtain ⟨ap', cp', ak', ck', A', c0, c1, hp, hk, hkid, m1, m2⟩ := HL1.out.see
  have HK := hid hk
  have HKID := hid hkid
  simp only [T.ps, T.ks] at c0 c1 m2
  have hm2 : ks.length ≤ 9223372036854775807 := m2
  clear hp hk hkid m1 m2
  generalize hn : ks.length = n at *
  have HN := hid hn
  clear hn
  go_wp2_with fail
  go_loopw [1, 18] (fun x i wr => ∃ (k : Nat) (v' : Value), k ≤ n ∧ i = .int .i64 k ∧ x = v' ∧ Hid (Ow wr base v' (l ++ ps ++ allL (ks.take k))) ∧ Hid (Below base w1 wr) ∧ Hid (Below base w wr)) (fun _ i _ => n - (intOf i).toNat)
  case atStart => exact ⟨0, _, Nat.zero_le _, rfl, rfl, by show Ow _ _ _ _; simpa [allL] using HO1.out, Below.refl _ _, HB1.out⟩
  case round =>
    obtain ⟨k, v', hk, rfl, hv', HO2, HB12, HB2⟩ := hrel
    obtain ⟨a2, n2, cc2, hv2, HN2⟩ := HO2.out.shape'
    subst hv2
    subst hv'
    by_cases hlt : k < n
    · have hlt' : (k : Int) < (n : Int) := by omega
      have HL2 := hid (H0.out.to (only_of_belowB HB2.out) (fun x hx h => by have := HS.out x hx; omega))
      have hks : k < ks.length := by rw [HN.out]; exact hlt
      obtain ⟨x, off, rfl, hSx, hxw, hc⟩ := Rw.at (HK.out.to (only_of_belowB HB12.out) (fun x hx _ h => by have := HS.out x hx; omega)) (by simp only [T.ks]; omega)
      have d0 := hc k _ (ptrs_at A' _ k (by simp only [T.ks]; omega))
      obtain ⟨S1, hS1, hk0⟩ := HKID.out k (by simp only [T.ks]; omega)
      have HK0 := hid (hk0.to (only_of_belowB HB12.out) (fun x hx h => by have := HS.out x (hS1 x hx); omega))
      have HS1 : Hid (∀ x, S1 x → x < base) := fun x hx => HS.out x (hS1 x hx)
      have HTK : Hid (allL (ks.take (k + 1)) = allL (ks.take k) ++ (tAt ks k).all) := allL_take ks k hks
      have HLEN : Hid ((l ++ ps ++ allL (ks.take k)).length + (tAt ks k).all.length ≤ 1048576) := by
        show _ ≤ _
        have h1 := allL_take_le ks (k + 1)
        have h2 := HLP.out
        rw [HTK.out] at h1
        simp only [List.length_append] at h1 ⊢
        omega
      have HMEM : Hid (tAt ks k ∈ ks) := by
        show _ ∈ _
        simp only [tAt, List.getElem?_eq_getElem hks, Option.getD_some]
        exact List.getElem_mem hks
      simp only [T.ks, ptr] at d0 HK0
      clear hc hk0 hS1 hxw hSx
      go_wp2_with fail
      refine (HIH.out (tAt ks k) HMEM.out S1 (A' k) wr base (.slice a2 n2 cc2) (l ++ ps ++ allL (ks.take k)) HK0.out HS1.out (Nat.le_trans hbase HB2.out.size) HO2.out HLEN.out).mono ?_
      rintro e w3 ⟨v3, rfl, hO3, hb3⟩
      have HO3 : Hid (Ow w3 base v3 (l ++ ps ++ allL (ks.take (k + 1)))) := by
        show Ow _ _ _ _
        rw [HTK.out, ← List.append_assoc]
        exact hO3
      have HB3 := hid (HB2.out.trans hb3)
      have HB4 := hid (HB12.out.trans hb3)
      obtain ⟨a3, n3, cc3, hv3, HN3⟩ := hO3.shape'
      subst hv3
      clear hO3 hb3
      go_wp2
      go_roundw
      case rel => exact ⟨k + 1, _, by omega, by go_num, rfl, HO3.out, HB4.out, HB3.out⟩
      case measure => simp [intOf]; omega
    · have hk' : k = n := by omega
      have HO3 : Hid (Ow wr base (.slice a2 n2 cc2) (l ++ (T.mk ps ks).all)) := by
        show Ow _ _ _ _
        have e : l ++ (T.mk ps ks).all = l ++ ps ++ allL (ks.take k) := by rw [hk', ← HN.out, List.take_length]; simp [T.all]
        rw [e]
        exact HO2.out
      clear hk'
      go_wp2
      go_ret
      exact ⟨_, rfl, HO3.out, HB2.out⟩
open Go.RowKit
set_option linter.unusedVariables false
def isStr (u : Value) : Prop := ∃ s, u = .string s
def isInt (u : Value) : Prop := ∃ i, u = .int .i64 i
def simV (x y : Value) : Prop := x = y ∨ (isStr x ∧ isStr y) ∨ (isInt x ∧ isInt y)
theorem simV.trans {x y z : Value} (h : simV x y) (k : simV y z) : simV x z := by
  rcases h with rfl | ⟨h1, h2⟩ | ⟨h1, h2⟩
  · exact k
  · rcases k with rfl | ⟨k1, k2⟩ | ⟨k1, k2⟩
    · exact .inr (.inl ⟨h1, h2⟩)
    · exact .inr (.inl ⟨h1, k2⟩)
    · obtain ⟨s, rfl⟩ := h2; obtain ⟨i, hi⟩ := k1; cases hi
  · rcases k with rfl | ⟨k1, k2⟩ | ⟨k1, k2⟩
    · exact .inr (.inr ⟨h1, h2⟩)
    · obtain ⟨s, rfl⟩ := h2; obtain ⟨i, hi⟩ := k1; cases hi
    · exact .inr (.inr ⟨h1, k2⟩)
def Kind (K : Value → Prop) : Prop := ∀ x y, K x → simV x y → K y
theorem kind_str : Kind isStr := by
  rintro x y hx (rfl | ⟨_, h⟩ | ⟨h, _⟩)
  · exact hx
  · exact h
  · obtain ⟨s, rfl⟩ := hx; obtain ⟨i, hi⟩ := h; cases hi
theorem kind_int : Kind isInt := by
  rintro x y hx (rfl | ⟨h, _⟩ | ⟨_, h⟩)
  · exact hx
  · obtain ⟨s, rfl⟩ := hx; obtain ⟨i, hi⟩ := h; cases hi
  · exact h
structure Mk (S : Nat → Prop) (w w' : World) : Prop where
  only : Only S w w'
  sim : ∀ b T xs, Bk w b T xs → S b → ∃ ys, Bk w' b T ys ∧ ∀ (j : Nat) u, xs[j]? = some u → ∃ u', ys[j]? = some u' ∧ simV u u'
theorem Mk.refl (S : Nat → Prop) (w : World) : Mk S w w := ⟨Only.refl _ _, fun b T xs h _ => ⟨xs, h, fun j u hu => ⟨u, hu, .inl rfl⟩⟩⟩
theorem Mk.trans {S : Nat → Prop} {a b c : World} (h : Mk S a b) (k : Mk S b c) : Mk S a c := by
  refine ⟨h.only.trans k.only, fun g T xs hb hS => ?_⟩
  obtain ⟨ys, h1, h2⟩ := h.sim g T xs hb hS
  obtain ⟨zs, h3, h4⟩ := k.sim g T ys h1 hS
  refine ⟨zs, h3, fun j u hu => ?_⟩
  obtain ⟨u', h5, h6⟩ := h2 j u hu
  obtain ⟨u'', h7, h8⟩ := h4 j u' h5
  exact ⟨u'', h7, h6.trans h8⟩
theorem mk_below {S : Nat → Prop} {w w' : World} (h : Below w.heap.size w w') : Mk S w w' := ⟨only_of_below h S, fun b T xs hb _ => ⟨xs, hb.below h, fun j u hu => ⟨u, hu, .inl rfl⟩⟩⟩
theorem mk_set {S : Nat → Prop} {w : World} {b o : Nat} {T : TypeId} {xs : List Value} {x y : Value} (hb : Bk w b T xs) (hS : S b) (hx : xs[o]? = some x) (hs : simV x y) : Mk S w (w.setCell ⟨b, o, none⟩ y) := by
  refine ⟨only_set hS y, fun g T' zs hg _ => ?_⟩
  by_cases e : g = b
  · subst e
    refine ⟨_, hg.set o y, fun j u hu => ?_⟩
    have hz : some (Obj.cells xs.toArray T (0, 0)) = some (Obj.cells zs.toArray T' (0, 0)) := hb.symm.trans hg
    simp at hz
    obtain ⟨rfl, rfl⟩ := hz
    by_cases ej : j = o
    · subst ej
      rw [hx] at hu
      cases hu
      exact ⟨y, by simp [(List.getElem?_eq_some_iff.1 hx).1], hs⟩
    · exact ⟨u, by rw [List.getElem?_set_ne (Ne.symm ej)]; exact hu, .inl rfl⟩
  · exact ⟨zs, hg.setOther e _ _, fun j u hu => ⟨u, hu, .inl rfl⟩⟩
theorem Uf.bk {w : World} {b : Nat} (h : Uf w b) : ∃ T xs, Bk w b T xs := by
  obtain ⟨xs, T, h⟩ := h
  exact ⟨T, xs.toList, by show _ = _; simpa using h⟩
theorem Mk.uf {S : Nat → Prop} {w w' : World} (m : Mk S w w') {b : Nat} (h : Uf w b) : Uf w' b := by
  obtain ⟨T, xs, hb⟩ := h.bk
  by_cases hS : S b
  · obtain ⟨ys, h1, _⟩ := m.sim b T xs hb hS
    exact h1.uf
  · exact (hb.to m.only hS).uf
theorem bk_cell {w : World} {b o : Nat} {T : TypeId} {xs : List Value} {u : Value} (h : Bk w b T xs) (hc : w.cell? ⟨b, o, none⟩ = some u) : xs[o]? = some u := by
  have h' : w.heap[b]? = some (.cells xs.toArray T (0, 0)) := h
  simpa [World.cell?, h'] using hc
theorem Mk.cell {S : Nat → Prop} {w w' : World} (m : Mk S w w') {b o : Nat} {u : Value} (hu : Uf w b) (hc : w.cell? ⟨b, o, none⟩ = some u) : ∃ u', w'.cell? ⟨b, o, none⟩ = some u' ∧ simV u u' := by
  obtain ⟨T, xs, hb⟩ := hu.bk
  have hx := bk_cell hb hc
  by_cases hS : S b
  · obtain ⟨ys, h1, h2⟩ := m.sim b T xs hb hS
    obtain ⟨u', h3, h4⟩ := h2 o u hx
    exact ⟨u', h1.cell h3, h4⟩
  · exact ⟨u, (hb.to m.only hS).cell hx, .inl rfl⟩
def Kw (w : World) (S : Nat → Prop) (v : Value) (n m : Nat) (K : Value → Prop) : Prop :=
  ∃ a c, v = .slice a n c ∧ n ≤ c ∧ c ≤ 9223372036854775807 ∧ (0 < n → ∃ b off, a = some ⟨b, off, none⟩ ∧ S b ∧ Uf w b ∧ ∀ j, j < m → ∃ u, w.cell? ⟨b, off + j, none⟩ = some u ∧ K u)
theorem Kw.mk {S S' : Nat → Prop} {w w' : World} {v : Value} {n m : Nat} {K : Value → Prop} (h : Kw w S v n m K) (hm : Mk S' w w') (hK : Kind K) : Kw w' S v n m K := by
  obtain ⟨a, c, h1, h2, h3, h4⟩ := h
  refine ⟨a, c, h1, h2, h3, fun hn => ?_⟩
  obtain ⟨b, off, h5, h6, h7, h8⟩ := h4 hn
  refine ⟨b, off, h5, h6, hm.uf h7, fun j hj => ?_⟩
  obtain ⟨u, h9, h10⟩ := h8 j hj
  obtain ⟨u', h11, h12⟩ := hm.cell h7 h9
  exact ⟨u', h11, hK _ _ h10 h12⟩
theorem kw_of {w : World} {S S' : Nat → Prop} {v : Value} {n : Nat} {xs : List Value} {K : Value → Prop} (h : Rw w S v n xs) (hx : ∀ u ∈ xs, K u) (hS : ∀ b, S b → b < w.heap.size → S' b ∧ Uf w b) : Kw w S' v n xs.length K := by
  obtain ⟨a, c, h1, h2, h3, h4, hn, h5⟩ := h
  refine ⟨a, c, h1, h2, h3, fun hp => ?_⟩
  obtain ⟨b, off, h6, h7, h8, h9⟩ := h5 hp
  refine ⟨b, off, h6, (hS b h8 h7).1, (hS b h8 h7).2, fun j hj => ?_⟩
  exact ⟨xs[j], h9 j _ (by simp [hj]), hx _ (by simp)⟩
def Mi (w : World) (b off m i : Nat) (V : Nat → Value) (K : Value → Prop) : Prop := ∃ T xs, Bk w b T xs ∧ (∀ j, j < m → ∃ u, xs[off + j]? = some u ∧ K u) ∧ ∀ j, j < i → xs[off + j]? = some (V j)
theorem Mi.start {w : World} {b off m : Nat} {V : Nat → Value} {K : Value → Prop} (hu : Uf w b) (h : ∀ j, j < m → ∃ u, w.cell? ⟨b, off + j, none⟩ = some u ∧ K u) : Mi w b off m 0 V K := by
  obtain ⟨T, xs, hb⟩ := hu.bk
  refine ⟨T, xs, hb, fun j hj => ?_, fun j hj => absurd hj (Nat.not_lt_zero _)⟩
  obtain ⟨u, h1, h2⟩ := h j hj
  exact ⟨u, bk_cell hb h1, h2⟩
theorem Mi.below {w w' : World} {b off m i : Nat} {V : Nat → Value} {K : Value → Prop} (h : Mi w b off m i V K) (hb : Below w.heap.size w w') : Mi w' b off m i V K := by
  obtain ⟨T, xs, h1, h2, h3⟩ := h
  exact ⟨T, xs, h1.below hb, h2, h3⟩
theorem Mi.cell {w : World} {b off m i : Nat} {V : Nat → Value} {K : Value → Prop} (h : Mi w b off m i V K) {j : Nat} (hj : j < m) : (∃ u, w.cell? ⟨b, off + j, none⟩ = some u ∧ K u) ∧ w.frozen? ⟨b, off + j, none⟩ = false := by
  obtain ⟨T, xs, h1, h2, h3⟩ := h
  obtain ⟨u, h4, h5⟩ := h2 j hj
  exact ⟨⟨u, h1.cell h4, h5⟩, h1.free _⟩
theorem Mi.set {w : World} {b off m i : Nat} {V : Nat → Value} {K : Value → Prop} (h : Mi w b off m i V K) {o : Nat} (ho : o = off + i) (hi : i < m) (hK : K (V i)) : Mi (w.setCell ⟨b, o, none⟩ (V i)) b off m (i + 1) V K := by
  subst ho
  obtain ⟨T, xs, h1, h2, h3⟩ := h
  refine ⟨T, _, h1.set _ _, fun j hj => ?_, fun j hj => ?_⟩
  · obtain ⟨u, h4, h5⟩ := h2 j hj
    by_cases e : j = i
    · subst e
      exact ⟨V j, by simp [(List.getElem?_eq_some_iff.1 h4).1], hK⟩
    · exact ⟨u, by rw [List.getElem?_set_ne (by omega)]; exact h4, h5⟩
  · by_cases e : j = i
    · subst e
      obtain ⟨u, h4, _⟩ := h2 j hi
      simp [(List.getElem?_eq_some_iff.1 h4).1]
    · rw [List.getElem?_set_ne (by omega)]
      exact h3 j (by omega)
open Go.RowKit
def mV (k : Nat) (j : Nat) : Value := .string (mt (k + j))
def mI (k : Nat) (j : Nat) : Value := .int .i64 ((k + j : Nat) : Int)
theorem mi_mk {S : Nat → Prop} {w : World} {b off m i : Nat} {V : Nat → Value} {K : Value → Prop} (h : Mi w b off m i V K) (hS : S b) {o : Nat} (ho : o = off + i) (hi : i < m) (hs : ∀ u, K u → simV u (V i)) : Mk S w (w.setCell ⟨b, o, none⟩ (V i)) := by
  subst ho
  obtain ⟨T, xs, h1, h2, h3⟩ := h
  obtain ⟨u, h4, h5⟩ := h2 i hi
  exact mk_set h1 hS h4 (hs u h5)
theorem sim_mV (k i : Nat) : ∀ u, isStr u → simV u (mV k i) := fun _ hu => .inr (.inl ⟨hu, _, rfl⟩)
theorem sim_mI (k i : Nat) : ∀ u, isInt u → simV u (mI k i) := fun _ hu => .inr (.inr ⟨hu, _, rfl⟩)
def Marked (S : Nat → Prop) (w : World) (a : Option Addr) (n m : Nat) (V : Nat → Value) (K : Value → Prop) (w' : World) : Prop := Mk S w w' ∧ (0 < n → ∃ b off, a = some ⟨b, off, none⟩ ∧ S b ∧ Mi w' b off m m V K)
set_option maxHeartbeats 4000000 in
theorem markPairS_any (S : Nat → Prop) (a : Option Addr) (n c k : Nat) (w : World) (h : Kw w S (.slice a n c) n (n * 2) isStr) (hn : n ≤ 1048576) (hk0 : 0 < k) (hk : k ≤ 576460752303423488) :
    Calls Tryz.prog 125 #[.slice a n c, .int .i64 k] w fun e w' => e = .returned (.int .i64 ((k + n * 2 : Nat) : Int)) ∧ Marked S w a n (n * 2) (mV k) isStr w' := by
  obtain ⟨a', c', h1, h2, h3, h4⟩ := h
  cases h1
  rcases Nat.eq_zero_or_pos n with hz | hp
  · clear h4
    subst hz
    go_enter Tryz.func125, Tryz.ntmps125
    go_wp2_with fail
    go_loop [1, 5] (fun x i => x = .int .i64 k ∧ i = .int .i64 (0 : Nat)) (fun _ _ => 0)
    case atStart => exact ⟨rfl, rfl⟩
    case round =>
      obtain ⟨rfl, rfl⟩ := hrel
      go_wp2
      go_ret
      exact ⟨rfl, Mk.refl _ _, fun h => absurd h (Nat.lt_irrefl _)⟩
  · obtain ⟨b, off, rfl, hS, hu, hc⟩ := h4 hp
    have HI : Hid (Mi w b off (n * 2) 0 (mV k) isStr) := Mi.start hu hc
    have HS := hid hS
    clear h4 hc hu hS
    go_enter Tryz.func125, Tryz.ntmps125
    go_wp2_with fail
    go_loopw [1, 5] (fun x i wr => ∃ j : Nat, x = .int .i64 ((k + j * 2 : Nat) : Int) ∧ i = .int .i64 j ∧ j ≤ n ∧ Hid (Mi wr b off (n * 2) (j * 2) (mV k) isStr) ∧ Hid (Mk S w wr)) (fun _ i _ => n - (intOf i).toNat)
    case atStart => exact ⟨0, rfl, rfl, Nat.zero_le _, HI.out, Mk.refl _ _⟩
    case round =>
      obtain ⟨j, rfl, rfl, hj, HX, HG⟩ := hrel
      by_cases hlt : j < n
      · have hlt' : (j : Int) < (n : Int) := by omega
        have hj0 : (0 : Int) ≤ (j : Int) := by omega
        generalize hkz : k + j * 2 = kz
        have hkz0 : 0 < kz := by omega
        have hkz1 : kz ≤ 576460754400575488 := by omega
        have HK := hid hkz
        clear hkz
        go_wp2_with fail
        refine (markText_at kz (kz : Int) rfl wr hkz0 (by omega)).mono ?_
        rintro e w1 ⟨rfl, hb1⟩
        have HX1 := hid (HX.out.below hb1)
        have HG1 := hid (HG.out.trans (mk_below hb1))
        clear hb1 HX HG
        obtain ⟨⟨u0, c0, s0⟩, f0⟩ := HX1.out.cell (j := j * 2) (by omega)
        obtain ⟨u0, rfl⟩ := s0
        have HX2 : Hid (Mi (w1.setCell ⟨b, off + j * 2, none⟩ (.string (mt kz))) b off (n * 2) (j * 2 + 1) (mV k) isStr) := by rw [← HK.out]; exact HX1.out.set rfl (by omega) ⟨_, rfl⟩
        have HG2 : Hid (Mk S w (w1.setCell ⟨b, off + j * 2, none⟩ (.string (mt kz)))) := by rw [← HK.out]; exact HG1.out.trans (mi_mk HX1.out HS.out rfl (by omega) (sim_mV k (j * 2)))
        clear HX1 HG1
        generalize mt kz = m0 at *
        go_wp2_with fail
        refine (markText_at (kz + 1) ((kz : Int) + 1) (by omega) _ (by omega) (by omega)).mono ?_
        generalize w1.setCell ⟨b, off + j * 2, none⟩ (.string m0) = w2 at *
        rintro e w3 ⟨rfl, hb1⟩
        have HX3 := hid (HX2.out.below hb1)
        have HG3 := hid (HG2.out.trans (mk_below hb1))
        clear hb1 HX2 HG2 c0 f0
        obtain ⟨⟨u1, c1, s1⟩, f1⟩ := HX3.out.cell (j := j * 2 + 1) (by omega)
        obtain ⟨u1, rfl⟩ := s1
        have HX4 : Hid (Mi (w3.setCell ⟨b, off + j * 2 + 1, none⟩ (.string (mt (kz + 1)))) b off (n * 2) (j * 2 + 2) (mV k) isStr) := by
          rw [← HK.out, show k + j * 2 + 1 = k + (j * 2 + 1) by omega]; exact HX3.out.set (by omega) (by omega) ⟨_, rfl⟩
        have HG4 : Hid (Mk S w (w3.setCell ⟨b, off + j * 2 + 1, none⟩ (.string (mt (kz + 1))))) := by
          rw [← HK.out, show k + j * 2 + 1 = k + (j * 2 + 1) by omega]; exact HG3.out.trans (mi_mk HX3.out HS.out (by omega) (by omega) (sim_mV k (j * 2 + 1)))
        clear HX3 HG3
        rw [← Nat.add_assoc] at c1 f1
        generalize mt (kz + 1) = m1 at *
        go_wp2
        go_roundw
        case rel => exact ⟨j + 1, by rw [show k + (j + 1) * 2 = kz + 2 by have := HK.out; omega]; go_num, by go_num, by omega, by rw [show (j + 1) * 2 = j * 2 + 2 by omega]; exact HX4.out, HG4.out⟩
        case measure => simp [intOf]; omega
      · have hlt' : ¬ (j : Int) < (n : Int) := by omega
        have hjn : j = n := by omega
        subst hjn
        generalize hkz : k + j * 2 = kz
        go_wp2
        go_ret
        exact ⟨rfl, HG.out, fun _ => ⟨b, off, rfl, HS.out, HX.out⟩⟩
set_option maxHeartbeats 4000000 in
theorem markStringS_any (S : Nat → Prop) (a : Option Addr) (n c k : Nat) (w : World) (h : Kw w S (.slice a n c) n n isStr) (hn : n ≤ 1048576) (hk0 : 0 < k) (hk : k ≤ 576460752303423488) :
    Calls Tryz.prog 126 #[.slice a n c, .int .i64 k] w fun e w' => e = .returned (.int .i64 ((k + n : Nat) : Int)) ∧ Marked S w a n n (mV k) isStr w' := by
  obtain ⟨a', c', h1, h2, h3, h4⟩ := h
  cases h1
  rcases Nat.eq_zero_or_pos n with hz | hp
  · clear h4
    subst hz
    go_enter Tryz.func126, Tryz.ntmps126
    go_wp2_with fail
    go_loop [1, 5] (fun x i => x = .int .i64 k ∧ i = .int .i64 (0 : Nat)) (fun _ _ => 0)
    case atStart => exact ⟨rfl, rfl⟩
    case round =>
      obtain ⟨rfl, rfl⟩ := hrel
      go_wp2
      go_ret
      exact ⟨rfl, Mk.refl _ _, fun h => absurd h (Nat.lt_irrefl _)⟩
  · obtain ⟨b, off, rfl, hS, hu, hc⟩ := h4 hp
    have HI : Hid (Mi w b off n 0 (mV k) isStr) := Mi.start hu hc
    have HS := hid hS
    clear h4 hc hu hS
    go_enter Tryz.func126, Tryz.ntmps126
    go_wp2_with fail
    go_loopw [1, 5] (fun x i wr => ∃ j : Nat, x = .int .i64 ((k + j : Nat) : Int) ∧ i = .int .i64 j ∧ j ≤ n ∧ Hid (Mi wr b off n j (mV k) isStr) ∧ Hid (Mk S w wr)) (fun _ i _ => n - (intOf i).toNat)
    case atStart => exact ⟨0, rfl, rfl, Nat.zero_le _, HI.out, Mk.refl _ _⟩
    case round =>
      obtain ⟨j, rfl, rfl, hj, HX, HG⟩ := hrel
      by_cases hlt : j < n
      · have hlt' : (j : Int) < (n : Int) := by omega
        have hj0 : (0 : Int) ≤ (j : Int) := by omega
        generalize hkz : k + j = kz
        have hkz0 : 0 < kz := by omega
        have hkz1 : kz ≤ 576460754400575488 := by omega
        have HK := hid hkz
        clear hkz
        go_wp2_with fail
        refine (markText_at kz (kz : Int) rfl wr hkz0 (by omega)).mono ?_
        rintro e w1 ⟨rfl, hb1⟩
        have HX1 := hid (HX.out.below hb1)
        have HG1 := hid (HG.out.trans (mk_below hb1))
        clear hb1 HX HG
        obtain ⟨⟨u0, c0, s0⟩, f0⟩ := HX1.out.cell hlt
        obtain ⟨u0, rfl⟩ := s0
        have HX2 : Hid (Mi (w1.setCell ⟨b, off + j, none⟩ (.string (mt kz))) b off n (j + 1) (mV k) isStr) := by rw [← HK.out]; exact HX1.out.set rfl hlt ⟨_, rfl⟩
        have HG2 : Hid (Mk S w (w1.setCell ⟨b, off + j, none⟩ (.string (mt kz)))) := by rw [← HK.out]; exact HG1.out.trans (mi_mk HX1.out HS.out rfl hlt (sim_mV k j))
        clear HX1 HG1
        generalize mt kz = m0 at *
        go_wp2
        go_roundw
        case rel => exact ⟨j + 1, by rw [show k + (j + 1) = kz + 1 by have := HK.out; omega]; go_num, by go_num, by omega, HX2.out, HG2.out⟩
        case measure => simp [intOf]; omega
      · have hlt' : ¬ (j : Int) < (n : Int) := by omega
        have hjn : j = n := by omega
        subst hjn
        generalize hkz : k + j = kz
        go_wp2
        go_ret
        exact ⟨rfl, HG.out, fun _ => ⟨b, off, rfl, HS.out, HX.out⟩⟩
set_option maxHeartbeats 4000000 in
theorem markIntS_any (S : Nat → Prop) (a : Option Addr) (n c k : Nat) (w : World) (h : Kw w S (.slice a n c) n n isInt) (hn : n ≤ 1048576) (hk0 : 0 < k) (hk : k ≤ 576460752303423488) :
    Calls Tryz.prog 21 #[.slice a n c, .int .i64 k] w fun e w' => e = .returned (.int .i64 ((k + n : Nat) : Int)) ∧ Marked S w a n n (mI k) isInt w' := by
  obtain ⟨a', c', h1, h2, h3, h4⟩ := h
  cases h1
  rcases Nat.eq_zero_or_pos n with hz | hp
  · clear h4
    subst hz
    go_enter Tryz.func21, Tryz.ntmps21
    go_wp2_with fail
    go_loop [1, 5] (fun x i => x = .int .i64 k ∧ i = .int .i64 (0 : Nat)) (fun _ _ => 0)
    case atStart => exact ⟨rfl, rfl⟩
    case round =>
      obtain ⟨rfl, rfl⟩ := hrel
      go_wp2
      go_ret
      exact ⟨rfl, Mk.refl _ _, fun h => absurd h (Nat.lt_irrefl _)⟩
  · obtain ⟨b, off, rfl, hS, hu, hc⟩ := h4 hp
    have HI : Hid (Mi w b off n 0 (mI k) isInt) := Mi.start hu hc
    have HS := hid hS
    clear h4 hc hu hS
    go_enter Tryz.func21, Tryz.ntmps21
    go_wp2_with fail
    go_loopw [1, 5] (fun x i wr => ∃ j : Nat, x = .int .i64 ((k + j : Nat) : Int) ∧ i = .int .i64 j ∧ j ≤ n ∧ Hid (Mi wr b off n j (mI k) isInt) ∧ Hid (Mk S w wr)) (fun _ i _ => n - (intOf i).toNat)
    case atStart => exact ⟨0, rfl, rfl, Nat.zero_le _, HI.out, Mk.refl _ _⟩
    case round =>
      obtain ⟨j, rfl, rfl, hj, HX, HG⟩ := hrel
      by_cases hlt : j < n
      · have hlt' : (j : Int) < (n : Int) := by omega
        have hj0 : (0 : Int) ≤ (j : Int) := by omega
        generalize hkz : k + j = kz
        have hkz0 : 0 < kz := by omega
        have hkz1 : kz ≤ 576460754400575488 := by omega
        have HK := hid hkz
        clear hkz
        obtain ⟨⟨u0, c0, s0⟩, f0⟩ := HX.out.cell hlt
        obtain ⟨u0, rfl⟩ := s0
        have HX2 : Hid (Mi (wr.setCell ⟨b, off + j, none⟩ (.int .i64 kz)) b off n (j + 1) (mI k) isInt) := by rw [← HK.out]; exact HX.out.set rfl hlt ⟨_, rfl⟩
        have HG2 : Hid (Mk S w (wr.setCell ⟨b, off + j, none⟩ (.int .i64 kz))) := by rw [← HK.out]; exact HG.out.trans (mi_mk HX.out HS.out rfl hlt (sim_mI k j))
        clear HX HG
        go_wp2
        go_roundw
        case rel => exact ⟨j + 1, by rw [show k + (j + 1) = kz + 1 by have := HK.out; omega]; go_num, by go_num, by omega, HX2.out, HG2.out⟩
        case measure => simp [intOf]; omega
      · have hlt' : ¬ (j : Int) < (n : Int) := by omega
        have hjn : j = n := by omega
        subst hjn
        generalize hkz : k + j = kz
        go_wp2
        go_ret
        exact ⟨rfl, HG.out, fun _ => ⟨b, off, rfl, HS.out, HX.out⟩⟩
end Go.Proofs.YtmilnejacnaejaaGreatDoor
