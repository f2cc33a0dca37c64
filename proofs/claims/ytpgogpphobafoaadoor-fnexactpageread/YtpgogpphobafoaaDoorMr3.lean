/-
  What is read out of a page's bytes, as plain data; PageRead of the specification.
-/
import Derived.Test.YtpgogpphobafoaaDoorMr2
import Derived.LaidLaws
import Derived.Stop.LaidErr
import Derived.WalkLawsBesides
import Derived.Defers
import Derived.Recover
import Derived.Deep.RegionWith
import Derived.Deep.RegionLaw
import Derived.Deep.DeepCutAuto
import Derived.Test.YtpgogpphobafoaaDoorMr1
namespace Go.Proofs.YtpgogpphobafoaaDoor
open Go.RowKit
/-- One round of the reading: a key, and a kid or a value. -/
def cdStep (zs : List Int) (B : Bool) (p : PG) (at' : Int) : PG × Int :=
  if B = true then (⟨p.keys ++ [strOf (gt zs at').1], p.vals, p.kids ++ [(gv zs (gt zs at').2).1]⟩, (gv zs (gt zs at').2).2)
  else (⟨p.keys ++ [strOf (gt zs at').1], p.vals ++ [strOf (gt zs (gt zs at').2).1], p.kids⟩, (gt zs (gt zs at').2).2)
def cdGo (zs : List Int) (B : Bool) (n : Int) : Nat → Nat → PG → Int → PG
  | 0, _, p, _ => p
  | f + 1, i, p, a => if (i : Int) < n ∧ i ≤ 4 ∧ 0 ≤ a then cdGo zs B n f (i + 1) (cdStep zs B p a).1 (cdStep zs B p a).2 else p
/-- What PageRead takes to be there. -/
def cd (zs : List Int) : PG :=
  if zAt zs 0 = 66 then
    (if 0 ≤ (gv zs 1).2 then cdGo zs true (gv zs 1).1 6 0 ⟨[], [], [(gv zs (gv zs 1).2).1]⟩ (gv zs (gv zs 1).2).2 else cdGo zs true (gv zs 1).1 6 0 ⟨[], [], []⟩ (gv zs 1).2)
  else cdGo zs false (gv zs 1).1 6 0 ⟨[], [], []⟩ (gv zs 1).2
def prd (zs : List Int) : Option PG := if zs.length = 512 ∧ (zAt zs 0 = 76 ∨ zAt zs 0 = 66) ∧ pgBytes (cd zs) = some zs then some (cd zs) else none
theorem cdGo_stop (zs : List Int) (B : Bool) (n : Int) (f i : Nat) (p : PG) (a : Int) (h : ¬ ((i : Int) < n ∧ i ≤ 4 ∧ 0 ≤ a)) : cdGo zs B n f i p a = p := by
  cases f with
  | zero => rfl
  | succ f => rw [cdGo, if_neg h]
theorem cdGo_on (zs : List Int) (B : Bool) (n : Int) (f i : Nat) (p : PG) (a : Int) (h : (i : Int) < n ∧ i ≤ 4 ∧ 0 ≤ a) : cdGo zs B n (f + 1) i p a = cdGo zs B n f (i + 1) (cdStep zs B p a).1 (cdStep zs B p a).2 := by rw [cdGo, if_pos h]
theorem results_pg2 {fn : Func} {p u : Tmp} (h : fn.results = #[.cell p 30, .tmp u]) (tmps : Array Value) (w : World) (g : Nat) {x y z b : Value} (hp : tmps.getD p undef = .pointer (some ⟨g, 0, none⟩)) (hb : tmps.getD u undef = b)
    (c0 : w.cell? ⟨g, 0, none⟩ = some x) (c1 : w.cell? ⟨g, 1, none⟩ = some y) (c2 : w.cell? ⟨g, 2, none⟩ = some z) : (results fn tmps).run Tryd.prog w = .ok (.tuple #[.agg #[x, y, z], b]) w := by
  have hp' : tmps[p]?.getD undef = .pointer (some ⟨g, 0, none⟩) := by simpa using hp
  have hb' : tmps[u]?.getD undef = b := by simpa using hb
  have hl : (loadVar 30 ⟨g, 0, none⟩).run Tryd.prog w = .ok (.agg #[x, y, z]) w := by go_simp
  simp [results, h, hp', hb', asAddr, hl, Result.andThen]
/-- The page that is being read lies in the box behind the result's, its rows its own and apart. -/
structure Pr1 (w v : World) (kv vv iv : Value) (p : PG) : Prop where
  be : Below w.heap.size w v
  rb : Bk v w.heap.size 30 [.slice none 0 0, .slice none 0 0, .slice none 0 0]
  bk : Bk v (w.heap.size + 1) 30 [kv, vv, iv]
  hk : v.ownsRow 0 9 1 kv p.keys.length (p.keys.map Value.string)
  hv : v.ownsRow 0 9 1 vv p.vals.length (p.vals.map Value.string)
  hi : v.ownsRow 0 3 1 iv p.kids.length (p.kids.map (Value.int .i64))
  lo : ∀ y, (kv.ownBlock = some y ∨ vv.ownBlock = some y ∨ iv.ownBlock = some y) → w.heap.size + 1 < y
  ap : ∀ y, (kv.ownBlock = some y → vv.ownBlock ≠ some y ∧ iv.ownBlock ≠ some y) ∧ (vv.ownBlock = some y → iv.ownBlock ≠ some y)
theorem Pr1.below {w v v' : World} {kv vv iv : Value} {p : PG} (h : Pr1 w v kv vv iv p) (hb : Below v.heap.size v v') : Pr1 w v' kv vv iv p :=
  ⟨h.be.trans (hb.mono h.be.size), h.rb.below hb, h.bk.below hb, own_kept h.hk (only_of_below hb (fun _ => False)) (fun _ _ h => h), own_kept h.hv (only_of_below hb (fun _ => False)) (fun _ _ h => h), own_kept h.hi (only_of_below hb (fun _ => False)) (fun _ _ h => h), h.lo, h.ap⟩
theorem Pr1.cells {w v : World} {kv vv iv : Value} {p : PG} (h : Pr1 w v kv vv iv p) : v.cell? ⟨w.heap.size + 1, 0, none⟩ = some kv ∧ v.cell? ⟨w.heap.size + 1, 1, none⟩ = some vv ∧ v.cell? ⟨w.heap.size + 1, 2, none⟩ = some iv :=
  ⟨h.bk.cell (j := 0) rfl, h.bk.cell (j := 1) rfl, h.bk.cell (j := 2) rfl⟩
theorem Pr1.pgr {w v : World} {ka va ia : Option Addr} {kn kc vn vc jn ic : Nat} {p : PG} (h : Pr1 w v (.slice ka kn kc) (.slice va vn vc) (.slice ia jn ic) p) : Pgr v (fun y => w.heap.size + 1 < y) ka kn kc va vn vc ia jn ic p :=
  ⟨rw_own h.hk (fun k e _ _ => h.lo k (.inl e)), rw_own h.hv (fun k e _ _ => h.lo k (.inr (.inl e))), rw_own h.hi (fun k e _ _ => h.lo k (.inr (.inr e)))⟩
theorem Pr1.addK {w v w' : World} {kv vv iv nw : Value} {p : PG} {s : ByteArray} (h : Pr1 w v kv vv iv p) (hO : w'.ownsRow 0 9 1 nw (p.keys.length + 1) (p.keys.map (Value.string) ++ [Value.string s])) (hg : v.grownBy w' kv.ownBlock) (ha : nw.ownBlock = kv.ownBlock ∨ ∃ k, nw.ownBlock = some k ∧ v.heap.size ≤ k) :
    Pr1 w (w'.setCell ⟨w.heap.size + 1, 0, none⟩ nw) nw vv iv ⟨p.keys ++ [s], p.vals, p.kids⟩ ∧ Bk w' (w.heap.size + 1) 30 [kv, vv, iv] := by
  have hon : Only (fun y => kv.ownBlock = some y) v w' := only_of_grown hg (fun k e => e)
  have hos : Only (fun y => y = w.heap.size + 1) w' (w'.setCell ⟨w.heap.size + 1, 0, none⟩ nw) := only_set (R := fun y => y = w.heap.size + 1) rfl _
  have hlo : ∀ y, kv.ownBlock = some y → w.heap.size + 1 < y := fun y e => h.lo y (.inl e)
  have hbl := h.bk.lt
  have hnw : ∀ y, nw.ownBlock = some y → kv.ownBlock = some y ∨ v.heap.size ≤ y := by
    intro y hy
    rcases ha with e | ⟨k, e, hk⟩
    · exact .inl (e ▸ hy)
    · rw [e] at hy; cases hy; exact .inr hk
  have hnl : ∀ y, nw.ownBlock = some y → w.heap.size + 1 < y := by
    intro y hy
    rcases hnw y hy with e | e
    · exact hlo y e
    · omega
  have hb2 : Bk w' (w.heap.size + 1) 30 [kv, vv, iv] := h.bk.to hon (fun e => by have := hlo _ e; omega)
  have hrb : Bk w' w.heap.size 30 [.slice none 0 0, .slice none 0 0, .slice none 0 0] := h.rb.to hon (fun e => by have := hlo _ e; omega)
  have hk2 := World.ownsRow.lt h.hk
  have hv2 := World.ownsRow.lt h.hv
  have hi2 := World.ownsRow.lt h.hi
  refine ⟨⟨(h.be.trans (hon.below h.be.size (fun b hb e => by have := hlo _ e; omega))).setCell (p := ⟨w.heap.size + 1, 0, none⟩) (Nat.le_succ _) _, hrb.setOther (by omega) _ _, ?_, ?_, ?_, ?_, ?_, ?_⟩, hb2⟩
  · exact hb2.set 0 nw
  · have : (w'.setCell ⟨w.heap.size + 1, 0, none⟩ nw).ownsRow 0 9 1 nw (p.keys.length + 1) (p.keys.map (Value.string) ++ [Value.string s]) := own_kept hO hos (fun k e e2 => by have := hnl k e; omega)
    simpa using this
  · exact own_kept (own_kept h.hv hon (fun k e e2 => ((h.ap k).1 e2).1 e)) hos (fun k e e2 => by have := h.lo k (.inr (.inl e)); omega)
  · exact own_kept (own_kept h.hi hon (fun k e e2 => ((h.ap k).1 e2).2 e)) hos (fun k e e2 => by have := h.lo k (.inr (.inr e)); omega)
  · rintro y (e | e | e)
    · exact hnl y e
    · exact h.lo y (.inr (.inl e))
    · exact h.lo y (.inr (.inr e))
  · intro y
    refine ⟨fun e => ⟨fun e2 => ?_, fun e2 => ?_⟩, (h.ap y).2⟩
    · rcases hnw y e with e3 | e3
      · exact ((h.ap y).1 e3).1 e2
      · have := (hv2 y e2).2; omega
    · rcases hnw y e with e3 | e3
      · exact ((h.ap y).1 e3).2 e2
      · have := (hi2 y e2).2; omega
theorem Pr1.addV {w v w' : World} {kv vv iv nw : Value} {p : PG} {s : ByteArray} (h : Pr1 w v kv vv iv p) (hO : w'.ownsRow 0 9 1 nw (p.vals.length + 1) (p.vals.map (Value.string) ++ [Value.string s])) (hg : v.grownBy w' vv.ownBlock) (ha : nw.ownBlock = vv.ownBlock ∨ ∃ k, nw.ownBlock = some k ∧ v.heap.size ≤ k) :
    Pr1 w (w'.setCell ⟨w.heap.size + 1, 1, none⟩ nw) kv nw iv ⟨p.keys, p.vals ++ [s], p.kids⟩ ∧ Bk w' (w.heap.size + 1) 30 [kv, vv, iv] := by
  have hon : Only (fun y => vv.ownBlock = some y) v w' := only_of_grown hg (fun k e => e)
  have hos : Only (fun y => y = w.heap.size + 1) w' (w'.setCell ⟨w.heap.size + 1, 1, none⟩ nw) := only_set (R := fun y => y = w.heap.size + 1) rfl _
  have hlo : ∀ y, vv.ownBlock = some y → w.heap.size + 1 < y := fun y e => h.lo y (.inr (.inl e))
  have hbl := h.bk.lt
  have hnw : ∀ y, nw.ownBlock = some y → vv.ownBlock = some y ∨ v.heap.size ≤ y := by
    intro y hy
    rcases ha with e | ⟨k, e, hk⟩
    · exact .inl (e ▸ hy)
    · rw [e] at hy; cases hy; exact .inr hk
  have hnl : ∀ y, nw.ownBlock = some y → w.heap.size + 1 < y := by
    intro y hy
    rcases hnw y hy with e | e
    · exact hlo y e
    · omega
  have hb2 : Bk w' (w.heap.size + 1) 30 [kv, vv, iv] := h.bk.to hon (fun e => by have := hlo _ e; omega)
  have hrb : Bk w' w.heap.size 30 [.slice none 0 0, .slice none 0 0, .slice none 0 0] := h.rb.to hon (fun e => by have := hlo _ e; omega)
  have hk2 := World.ownsRow.lt h.hk
  have hv2 := World.ownsRow.lt h.hv
  have hi2 := World.ownsRow.lt h.hi
  refine ⟨⟨(h.be.trans (hon.below h.be.size (fun b hb e => by have := hlo _ e; omega))).setCell (p := ⟨w.heap.size + 1, 1, none⟩) (Nat.le_succ _) _, hrb.setOther (by omega) _ _, ?_, ?_, ?_, ?_, ?_, ?_⟩, hb2⟩
  · exact hb2.set 1 nw
  · exact own_kept (own_kept h.hk hon (fun k e e2 => ((h.ap k).1 e).1 e2)) hos (fun k e e2 => by have := h.lo k (.inl e); omega)
  · have : (w'.setCell ⟨w.heap.size + 1, 1, none⟩ nw).ownsRow 0 9 1 nw (p.vals.length + 1) (p.vals.map (Value.string) ++ [Value.string s]) := own_kept hO hos (fun k e e2 => by have := hnl k e; omega)
    simpa using this
  · exact own_kept (own_kept h.hi hon (fun k e e2 => (h.ap k).2 e2 e)) hos (fun k e e2 => by have := h.lo k (.inr (.inr e)); omega)
  · rintro y (e | e | e)
    · exact h.lo y (.inl e)
    · exact hnl y e
    · exact h.lo y (.inr (.inr e))
  · intro y
    refine ⟨fun e => ⟨fun e2 => ?_, ((h.ap y).1 e).2⟩, fun e e2 => ?_⟩
    · rcases hnw y e2 with e3 | e3
      · exact ((h.ap y).1 e).1 e3
      · have := (hk2 y e).2; omega
    · rcases hnw y e with e3 | e3
      · exact (h.ap y).2 e3 e2
      · have := (hi2 y e2).2; omega
theorem Pr1.addI {w v w' : World} {kv vv iv nw : Value} {p : PG} {s : Int} (h : Pr1 w v kv vv iv p) (hO : w'.ownsRow 0 3 1 nw (p.kids.length + 1) (p.kids.map (Value.int .i64) ++ [Value.int .i64 s])) (hg : v.grownBy w' iv.ownBlock) (ha : nw.ownBlock = iv.ownBlock ∨ ∃ k, nw.ownBlock = some k ∧ v.heap.size ≤ k) :
    Pr1 w (w'.setCell ⟨w.heap.size + 1, 2, none⟩ nw) kv vv nw ⟨p.keys, p.vals, p.kids ++ [s]⟩ ∧ Bk w' (w.heap.size + 1) 30 [kv, vv, iv] := by
  have hon : Only (fun y => iv.ownBlock = some y) v w' := only_of_grown hg (fun k e => e)
  have hos : Only (fun y => y = w.heap.size + 1) w' (w'.setCell ⟨w.heap.size + 1, 2, none⟩ nw) := only_set (R := fun y => y = w.heap.size + 1) rfl _
  have hlo : ∀ y, iv.ownBlock = some y → w.heap.size + 1 < y := fun y e => h.lo y (.inr (.inr e))
  have hbl := h.bk.lt
  have hnw : ∀ y, nw.ownBlock = some y → iv.ownBlock = some y ∨ v.heap.size ≤ y := by
    intro y hy
    rcases ha with e | ⟨k, e, hk⟩
    · exact .inl (e ▸ hy)
    · rw [e] at hy; cases hy; exact .inr hk
  have hnl : ∀ y, nw.ownBlock = some y → w.heap.size + 1 < y := by
    intro y hy
    rcases hnw y hy with e | e
    · exact hlo y e
    · omega
  have hb2 : Bk w' (w.heap.size + 1) 30 [kv, vv, iv] := h.bk.to hon (fun e => by have := hlo _ e; omega)
  have hrb : Bk w' w.heap.size 30 [.slice none 0 0, .slice none 0 0, .slice none 0 0] := h.rb.to hon (fun e => by have := hlo _ e; omega)
  have hk2 := World.ownsRow.lt h.hk
  have hv2 := World.ownsRow.lt h.hv
  have hi2 := World.ownsRow.lt h.hi
  refine ⟨⟨(h.be.trans (hon.below h.be.size (fun b hb e => by have := hlo _ e; omega))).setCell (p := ⟨w.heap.size + 1, 2, none⟩) (Nat.le_succ _) _, hrb.setOther (by omega) _ _, ?_, ?_, ?_, ?_, ?_, ?_⟩, hb2⟩
  · exact hb2.set 2 nw
  · exact own_kept (own_kept h.hk hon (fun k e e2 => ((h.ap k).1 e).2 e2)) hos (fun k e e2 => by have := h.lo k (.inl e); omega)
  · exact own_kept (own_kept h.hv hon (fun k e e2 => (h.ap k).2 e e2)) hos (fun k e e2 => by have := h.lo k (.inr (.inl e)); omega)
  · have : (w'.setCell ⟨w.heap.size + 1, 2, none⟩ nw).ownsRow 0 3 1 nw (p.kids.length + 1) (p.kids.map (Value.int .i64) ++ [Value.int .i64 s]) := own_kept hO hos (fun k e e2 => by have := hnl k e; omega)
    simpa using this
  · rintro y (e | e | e)
    · exact h.lo y (.inl e)
    · exact h.lo y (.inr (.inl e))
    · exact hnl y e
  · intro y
    refine ⟨fun e => ⟨((h.ap y).1 e).1, fun e2 => ?_⟩, fun e e2 => ?_⟩
    · rcases hnw y e2 with e3 | e3
      · exact ((h.ap y).1 e).2 e3
      · have := (hk2 y e).2; omega
    · rcases hnw y e2 with e3 | e3
      · exact (h.ap y).2 e e3
      · have := (hv2 y e).2; omega
end Go.Proofs.YtpgogpphobafoaaDoor
/-
  PageRead of the specification.
-/
namespace Go.Proofs.YtpgogpphobafoaaDoor
open Go.RowKit
def PrPost (o : Option PG) (w : World) (e : Ending) (w' : World) : Prop := Below w.heap.size w w' ∧ ((o = none ∧ e = .returned (.tuple #[.agg #[.slice none 0 0, .slice none 0 0, .slice none 0 0], .bool false])) ∨ ∃ (p : PG) (ka : Option Addr) (kn kc : Nat) (va : Option Addr) (vn vc : Nat) (ia : Option Addr) (jn ic : Nat), o = some p ∧ e = .returned (.tuple #[.agg #[.slice ka kn kc, .slice va vn vc, .slice ia jn ic], .bool true]) ∧ Pgr w' (fun y => w.heap.size ≤ y) ka kn kc va vn vc ia jn ic p)
theorem gv_rng (zs : List Int) (hb : ∀ i : Nat, 0 ≤ zs[i]?.getD 0 ∧ zs[i]?.getD 0 ≤ 255) (p : Int) : -1 ≤ (gv zs p).2 ∧ (gv zs p).2 ≤ zs.length ∧ 0 ≤ (gv zs p).1 ∧ (gv zs p).1 ≤ 1099511627775 := by
  rcases gv_range zs hb p with h | ⟨j, h1, h2, h3, h4, h5⟩
  · rw [h]; exact ⟨by decide, by show (-1 : Int) ≤ _; omega, by decide, by decide⟩
  · exact ⟨by omega, by omega, h4, h5⟩
theorem gt_range (zs : List Int) (hb : ∀ i : Nat, 0 ≤ zs[i]?.getD 0 ∧ zs[i]?.getD 0 ≤ 255) (p : Int) : -1 ≤ (gt zs p).2 ∧ (gt zs p).2 ≤ zs.length := by
  have h := gv_rng zs hb p
  unfold gt
  split
  · exact ⟨by decide, by show (-1 : Int) ≤ _; omega⟩
  · rename_i h2
    show -1 ≤ (gv zs p).2 + (gv zs p).1 ∧ (gv zs p).2 + (gv zs p).1 ≤ zs.length
    omega
theorem pgBytes_some {p : PG} {bs : List Int} (h : pgBytes p = some bs) : (∀ z ∈ bs, 0 ≤ z ∧ z ≤ 255) ∧ bs.length = 512 := by
  unfold pgBytes at h
  split at h
  · rename_i hok
    cases h
    have hF := pgOk_facts hok
    have hl := pgBody_len hF p.keys.length (Nat.le_refl _)
    have hn := hF.nk
    have hr : (pgRaw p).length ≤ 512 := by show (pgBody p p.keys.length).length ≤ 512; omega
    refine ⟨byte_append (pgBody_byte hF _ (Nat.le_refl _)) (fun z hz => by have := List.eq_of_mem_replicate hz; omega), ?_⟩
    rw [pgFull, List.length_append, List.length_replicate]
    omega
  · cases h
set_option maxHeartbeats 8000000 in
set_option maxRecDepth 20000 in
theorem specPageRead_any (a : Option Addr) (n c : Nat) (zs : List Int) (w : World) (h : Rd w a n c zs) :
    Calls Tryd.prog 16 #[.slice a n c] w fun e w' => PrPost (prd zs) w e w' := by
  have hzl : n = zs.length := h.1
  have HBY := hid h.2.2.2.2.1
  have HR := hid h
  have ba : Below w.heap.size w ((w.alloc (.cells #[.slice none 0 0, .slice none 0 0, .slice none 0 0] 30)).alloc (.cells #[.slice none 0 0, .slice none 0 0, .slice none 0 0] 30)) := below_new (below_new (Below.refl _ _))
  have LS : Hid (Pr1 w ((w.alloc (.cells #[.slice none 0 0, .slice none 0 0, .slice none 0 0] 30)).alloc (.cells #[.slice none 0 0, .slice none 0 0, .slice none 0 0] 30)) (.slice none 0 0) (.slice none 0 0) (.slice none 0 0) ⟨[], [], []⟩) := by
    have k1 := Bk.new (w.alloc (.cells #[.slice none 0 0, .slice none 0 0, .slice none 0 0] 30)) 30 [.slice none 0 0, .slice none 0 0, .slice none 0 0]
    exact ⟨ba, (Bk.new w 30 [.slice none 0 0, .slice none 0 0, .slice none 0 0]).alloc _, by simpa using k1, World.ownsRow_nil _ _ _ _, World.ownsRow_nil _ _ _ _, World.ownsRow_nil _ _ _ _, fun y hy => (by rcases hy with e | e | e <;> cases e), fun y => ⟨fun e => (by cases e), fun e => (by cases e)⟩⟩
  clear ba
  have r0 := LS.out.rb.cell (j := 0) rfl
  have r1 := LS.out.rb.cell (j := 1) rfl
  have r2 := LS.out.rb.cell (j := 2) rfl
  have f0 := LS.out.rb.free 0
  have f1 := LS.out.rb.free 1
  have f2 := LS.out.rb.free 2
  obtain ⟨p0, p1, p2⟩ := LS.out.cells
  by_cases h512 : n = 512
  · subst h512
    have HZL : Hid (zs.length = 512) := hzl.symm
    obtain ⟨b, off, rfl, hbl, hcell⟩ := h.2.2.2.2.2 (by omega)
    have HC0 : Hid (∀ v, Below w.heap.size w v → v.cell? ⟨b, off, none⟩ = some (.int .u8 (zAt zs 0))) := by
      intro v hb
      rw [hb.cell (p := ⟨b, off, none⟩) hbl]
      exact hcell 0 (by omega)
    have hz0 := HBY.out 0
    have hz0' : 0 ≤ zAt zs 0 ∧ zAt zs 0 ≤ 255 := hz0
    have HPRN : Hid (¬ (zAt zs 0 = 76 ∨ zAt zs 0 = 66) → prd zs = none) := by
      intro hn
      rw [prd, if_neg]
      rintro ⟨_, h, _⟩
      exact hn h
    have HCDEF : Hid (cd zs = if zAt zs 0 = 66 then
        (if 0 ≤ (gv zs 1).2 then cdGo zs true (gv zs 1).1 6 0 ⟨[], [], [(gv zs (gv zs 1).2).1]⟩ (gv zs (gv zs 1).2).2 else cdGo zs true (gv zs 1).1 6 0 ⟨[], [], []⟩ (gv zs 1).2)
      else cdGo zs false (gv zs 1).1 6 0 ⟨[], [], []⟩ (gv zs 1).2) := rfl
    have HZC : Hid (zAt zs 0 = 76 ∨ zAt zs 0 = 66 → zAt zs 0 = 76 ∨ zAt zs 0 = 66) := fun h => h
    clear hcell hbl hzl h hz0
    have bS := HC0.out _ LS.out.be
    by_cases z76 : zAt zs 0 = 76
    · have HZ0 : Hid (zAt zs 0 = 76 ∨ zAt zs 0 = 66) := .inl z76
      rw [if_neg (by rw [z76]; decide)] at HCDEF
      have HC0' : Hid (∀ v, Below w.heap.size w v → v.cell? ⟨b, off, none⟩ = some (.int .u8 76)) := fun v hv => by rw [HC0.out v hv, z76]
      rw [z76] at bS
      clear HC0 HPRN HZC hz0' z76
      have HC0 := HC0'
      clear HC0'
      have RDS := hid (HR.out.kept LS.out.be)
      go_enter Tryd.func16, Tryd.ntmps16
      go_wp2_with fail
      refine (specGetVar_any _ 512 c zs 1 _ RDS.out (by omega)).mono ?_
      generalize (w.alloc (.cells #[.slice none 0 0, .slice none 0 0, .slice none 0 0] 30)).alloc (.cells #[.slice none 0 0, .slice none 0 0, .slice none 0 0] 30) = U at *
      rintro e w1 ⟨rfl, hb1⟩
      have L1 := hid (LS.out.below hb1)
      have hgv := gv_rng zs HBY.out 1
      generalize (gv zs 1).1 = n0 at *
      generalize (gv zs 1).2 = at0 at *
      clear hb1 LS RDS r0 r1 r2 f0 f1 f2 p0 p1 p2 bS
      rw [HZL.out] at hgv
      have b1 := HC0.out _ L1.out.be
      generalize hA : (some ⟨b, off, none⟩ : Option Addr) = a at *
      subst hA
      have LS := L1
      go_wp2_with fail
      go_loopw [6, 9] (fun xa xi wr => ∃ (j : Nat) (at' : Int) (ka : Option Addr) (kn kc : Nat) (va : Option Addr) (vn vc : Nat) (ia : Option Addr) (jn ic : Nat) (p : PG), xa = .int .i64 at' ∧ xi = .int .i64 j ∧ j ≤ 5 ∧ (-1 ≤ at' ∧ at' ≤ 512) ∧ Hid (p.keys.length ≤ j ∧ p.vals.length ≤ j ∧ p.kids.length ≤ j + 1) ∧ Hid (Pr1 w wr (.slice ka kn kc) (.slice va vn vc) (.slice ia jn ic) p) ∧ Hid (cdGo zs false n0 (6 - j) j p at' = cd zs)) (fun _ xi _ => 6 - (intOf xi).toNat)
      case atStart => exact ⟨0, at0, none, 0, 0, none, 0, 0, none, 0, 0, ⟨[], [], []⟩, rfl, rfl, by omega, by omega, ⟨by simp, by simp, by simp⟩, L1.out, HCDEF.out.symm⟩
      case round =>
        obtain ⟨j, at', ka, kn, kc, va, vn, vc, ia, jn, ic, p, rfl, rfl, hj, hat, HPL, L4, HCD⟩ := hrel
        clear LS
        by_cases q1 : (j : Int) < n0
        · by_cases q2 : (j : Int) ≤ 4
          · by_cases q3 : 0 ≤ at'
            · have L4B := L4
              have RD4 := hid (HR.out.kept L4.out.be)
              have b4 := HC0.out _ L4.out.be
              go_wp2_with fail
              refine (specGetText_any _ _ _ zs at' _ RD4.out (by omega)).mono ?_
              rintro e w5 ⟨rfl, hb5⟩
              have L5 := hid ((L4.out.below hb5).below (below_new (o := .cells #[.string (strOf (gt zs at').1)] 9) (Below.refl _ _)))
              have LL5 := hid (L4.out.below hb5)
              have Q5 := hid (Bk.new w5 9 [.string (strOf (gt zs at').1)])
              clear hb5 L4 RD4 b4
              obtain ⟨d0, d1, d2⟩ := LL5.out.cells
              have hgt := gt_range zs HBY.out at'
              rw [HZL.out] at hgt
              generalize hkk : strOf (gt zs at').1 = kk at *
              have HKK := hid hkk
              clear hkk
              have hkn2 : kn = p.keys.length := (Rw.len L4B.out.pgr.hk).1
              have hq1 : kn ≤ 1048576 := by have := HPL.out; omega
              have HOK := hid L5.out.hk
              rw [← hkn2] at HOK
              have HKN := hid hkn2
              clear hkn2
              go_wp2_with (at_builtin; refine wpList_append_st1 rfl _ _ rfl _ kn _ rfl HOK.out w5.heap.size kk rfl Q5.out hq1 ?_)
              intro a6 n6 c6 w6 hO6 hg6 ha6
              rw [HKN.out] at hO6
              obtain ⟨hL6, hB6⟩ := L5.out.addK hO6 hg6 (ha6.imp id (fun e => ⟨_, e, by simp⟩))
              have L6 := hid hL6
              have b6 := hB6.cell (j := 0) rfl
              have g6 := hB6.free 0
              have RD6 := hid (HR.out.kept L6.out.be)
              have b7 := HC0.out _ L6.out.be
              clear hO6 hg6 ha6 hL6 hB6 L5 Q5 LL5 HOK HKN d0 d1 d2
              go_wp2_with fail
              refine (specGetText_any _ _ _ zs (gt zs at').2 _ RD6.out (by omega)).mono ?_
              rintro e w7 ⟨rfl, hb7⟩
              have L7 := hid ((L6.out.below hb7).below (below_new (o := .cells #[.string (strOf (gt zs (gt zs at').2).1)] 9) (Below.refl _ _)))
              have Q7 := hid (Bk.new w7 9 [.string (strOf (gt zs (gt zs at').2).1)])
              have LL7 := hid (L6.out.below hb7)
              clear hb7 L6 RD6
              obtain ⟨d0, d1, d2⟩ := LL7.out.cells
              have hgv := gt_range zs HBY.out (gt zs at').2
              rw [HZL.out] at hgv
              generalize hgk : strOf (gt zs (gt zs at').2).1 = vv' at *
              generalize hga : (gt zs (gt zs at').2).2 = at3 at *
              have hjn2 : vn = p.vals.length := (Rw.len L4B.out.pgr.hv).1
              have hq2 : vn ≤ 1048576 := by have := HPL.out; omega
              have HOW := hid L7.out.hv
              rw [← hjn2] at HOW
              have HJN := hid hjn2
              clear hjn2
              go_wp2_with (at_builtin; refine wpList_append_st1 rfl _ _ rfl _ vn _ rfl HOW.out w7.heap.size vv' rfl Q7.out hq2 ?_)
              intro a8 n8 c8 w8 hO8 hg8 ha8
              rw [HJN.out] at hO8
              obtain ⟨hL8, hB8⟩ := L7.out.addV hO8 hg8 (ha8.imp id (fun e => ⟨_, e, by simp⟩))
              have L8 := hid hL8
              have b8 := hB8.cell (j := 1) rfl
              have g8 := hB8.free 1
              have HCX : Hid (cdGo zs false n0 (6 - (j + 1)) (j + 1) ⟨p.keys ++ [kk], p.vals ++ [vv'], p.kids⟩ at3 = cd zs) := by
                have := HCD.out
                rw [show 6 - j = (6 - (j + 1)) + 1 by omega, cdGo_on _ _ _ _ _ _ _ ⟨q1, by omega, q3⟩] at this
                show _ = cd zs
                simpa [cdStep, HKK.out, hgk, hga] using this
              clear hO8 hg8 ha8 hL8 hB8 L7 Q7 LL7 HOW hgk hga HJN
              go_wp2
              go_roundw
              case rel => exact ⟨j + 1, at3, _, _, _, _, _, _, _, _, _, _, rfl, by go_num, by omega, by omega, by have := HPL.out; exact ⟨by simp; omega, by simp; omega, by simp; omega⟩, L8.out, HCX.out⟩
              case measure => simp [intOf]; omega
            · have HPC : Hid (p = cd zs) := by
                have := HCD.out
                rw [cdGo_stop _ _ _ _ _ _ _ (by omega)] at this
                exact this
              have L := L4
              clear HCD L4
              have HCD := HPC
              clear HPC
              have lf := hid L.out.pgr
              obtain ⟨d0, d1, d2⟩ := L.out.cells
              go_wp2_with fail
              refine (specPageBytes_any _ ka kn kc va vn vc ia jn ic p _ lf.out).mono ?_
              intro e w5 hput
              obtain ⟨hb5, ⟨hnn, rfl⟩ | ⟨v5, bs, hss, rfl, hO5⟩⟩ := hput
              · have HPR : Hid (prd zs = none) := by
                  show prd zs = none
                  rw [prd, if_neg]
                  rintro ⟨_, _, h⟩
                  rw [← HCD.out, hnn] at h
                  cases h
                have L5 := hid (L.out.below hb5)
                have r0 := L5.out.rb.cell (j := 0) rfl
                have r1 := L5.out.rb.cell (j := 1) rfl
                have r2 := L5.out.rb.cell (j := 2) rfl
                have f0 := L5.out.rb.free 0
                have f1 := L5.out.rb.free 1
                have f2 := L5.out.rb.free 2
                have HBF := hid L5.out.be
                clear hb5 hnn L lf d0 d1 d2 L5
                go_wp2
                refine bodyPost_ret (results_pg2 (x := .slice none 0 0) (y := .slice none 0 0) (z := .slice none 0 0) rfl _ _ _ rfl rfl (by go_simp) (by go_simp) (by go_simp)) rfl ?_
                exact ⟨((HBF.out.setCell (p := ⟨w.heap.size, 0, none⟩) (Nat.le_refl _) _).setCell (p := ⟨w.heap.size, 1, none⟩) (Nat.le_refl _) _).setCell (p := ⟨w.heap.size, 2, none⟩) (Nat.le_refl _) _, .inl ⟨HPR.out, rfl⟩⟩
              · have hbs := pgBytes_some hss
                obtain ⟨a5, n5, c5, rfl, R5, hn5⟩ := hO5.rdS hbs.1 (by rw [hbs.2]; omega)
                have L5 := hid (L.out.below hb5)
                have RB := hid (HR.out.kept L5.out.be)
                have HSS := hid hss
                clear hb5 hO5 hbs hss L lf d0 d1 d2
                obtain ⟨d0, d1, d2⟩ := L5.out.cells
                have r0 := L5.out.rb.cell (j := 0) rfl
                have r1 := L5.out.rb.cell (j := 1) rfl
                have r2 := L5.out.rb.cell (j := 2) rfl
                have f0 := L5.out.rb.free 0
                have f1 := L5.out.rb.free 1
                have f2 := L5.out.rb.free 2
                go_wp2_with fail
                refine (same_any a5 _ n5 _ c5 _ bs zs _ R5.out RB.out).mono ?_
                by_cases heq : bs = zs
                · have HPR : Hid (prd zs = some p) := by
                    show prd zs = some p
                    rw [prd, if_pos, HCD.out]
                    exact ⟨HZL.out, HZ0.out, by rw [← HCD.out, HSS.out, heq]⟩
                  rw [decide_eq_true heq]
                  rintro e w6 ⟨rfl, rfl⟩
                  have L6 := hid L5.out.pgr
                  have HBF := hid L5.out.be
                  clear L5 R5 RB HSS heq
                  go_wp2
                  refine bodyPost_ret (results_pg2 (x := .slice ka kn kc) (y := .slice va vn vc) (z := .slice ia jn ic) rfl _ _ _ rfl rfl (by go_simp) (by go_simp) (by go_simp)) rfl ?_
                  refine ⟨((HBF.out.setCell (p := ⟨w.heap.size, 0, none⟩) (Nat.le_refl _) _).setCell (p := ⟨w.heap.size, 1, none⟩) (Nat.le_refl _) _).setCell (p := ⟨w.heap.size, 2, none⟩) (Nat.le_refl _) _, .inr ⟨p, _, _, _, _, _, _, _, _, _, HPR.out, rfl, ?_⟩⟩
                  have hon : Only (fun y => y = w.heap.size) w5 (((w5.setCell ⟨w.heap.size, 0, none⟩ (.slice ka kn kc)).setCell ⟨w.heap.size, 1, none⟩ (.slice va vn vc)).setCell ⟨w.heap.size, 2, none⟩ (.slice ia jn ic)) := (only_set (R := fun y => y = w.heap.size) rfl _).trans ((only_set (R := fun y => y = w.heap.size) rfl _).trans (only_set (R := fun y => y = w.heap.size) rfl _))
                  have h7 := L6.out.to hon (fun y hy _ e => by omega)
                  exact ⟨Rw.mono h7.hk (fun y hy _ => by omega), Rw.mono h7.hv (fun y hy _ => by omega), Rw.mono h7.hi (fun y hy _ => by omega)⟩
                · have HPR : Hid (prd zs = none) := by
                    show prd zs = none
                    rw [prd, if_neg]
                    rintro ⟨_, _, h⟩
                    rw [← HCD.out, HSS.out] at h
                    cases h
                    exact heq rfl
                  rw [decide_eq_false heq]
                  rintro e w6 ⟨rfl, rfl⟩
                  have HBF := hid L5.out.be
                  clear L5 R5 RB HSS heq
                  go_wp2
                  refine bodyPost_ret (results_pg2 (x := .slice none 0 0) (y := .slice none 0 0) (z := .slice none 0 0) rfl _ _ _ rfl rfl (by go_simp) (by go_simp) (by go_simp)) rfl ?_
                  exact ⟨((HBF.out.setCell (p := ⟨w.heap.size, 0, none⟩) (Nat.le_refl _) _).setCell (p := ⟨w.heap.size, 1, none⟩) (Nat.le_refl _) _).setCell (p := ⟨w.heap.size, 2, none⟩) (Nat.le_refl _) _, .inl ⟨HPR.out, rfl⟩⟩
          · have HPC : Hid (p = cd zs) := by
              have := HCD.out
              rw [cdGo_stop _ _ _ _ _ _ _ (by omega)] at this
              exact this
            have L := L4
            clear HCD L4
            have HCD := HPC
            clear HPC
            have lf := hid L.out.pgr
            obtain ⟨d0, d1, d2⟩ := L.out.cells
            go_wp2_with fail
            refine (specPageBytes_any _ ka kn kc va vn vc ia jn ic p _ lf.out).mono ?_
            intro e w5 hput
            obtain ⟨hb5, ⟨hnn, rfl⟩ | ⟨v5, bs, hss, rfl, hO5⟩⟩ := hput
            · have HPR : Hid (prd zs = none) := by
                show prd zs = none
                rw [prd, if_neg]
                rintro ⟨_, _, h⟩
                rw [← HCD.out, hnn] at h
                cases h
              have L5 := hid (L.out.below hb5)
              have r0 := L5.out.rb.cell (j := 0) rfl
              have r1 := L5.out.rb.cell (j := 1) rfl
              have r2 := L5.out.rb.cell (j := 2) rfl
              have f0 := L5.out.rb.free 0
              have f1 := L5.out.rb.free 1
              have f2 := L5.out.rb.free 2
              have HBF := hid L5.out.be
              clear hb5 hnn L lf d0 d1 d2 L5
              go_wp2
              refine bodyPost_ret (results_pg2 (x := .slice none 0 0) (y := .slice none 0 0) (z := .slice none 0 0) rfl _ _ _ rfl rfl (by go_simp) (by go_simp) (by go_simp)) rfl ?_
              exact ⟨((HBF.out.setCell (p := ⟨w.heap.size, 0, none⟩) (Nat.le_refl _) _).setCell (p := ⟨w.heap.size, 1, none⟩) (Nat.le_refl _) _).setCell (p := ⟨w.heap.size, 2, none⟩) (Nat.le_refl _) _, .inl ⟨HPR.out, rfl⟩⟩
            · have hbs := pgBytes_some hss
              obtain ⟨a5, n5, c5, rfl, R5, hn5⟩ := hO5.rdS hbs.1 (by rw [hbs.2]; omega)
              have L5 := hid (L.out.below hb5)
              have RB := hid (HR.out.kept L5.out.be)
              have HSS := hid hss
              clear hb5 hO5 hbs hss L lf d0 d1 d2
              obtain ⟨d0, d1, d2⟩ := L5.out.cells
              have r0 := L5.out.rb.cell (j := 0) rfl
              have r1 := L5.out.rb.cell (j := 1) rfl
              have r2 := L5.out.rb.cell (j := 2) rfl
              have f0 := L5.out.rb.free 0
              have f1 := L5.out.rb.free 1
              have f2 := L5.out.rb.free 2
              go_wp2_with fail
              refine (same_any a5 _ n5 _ c5 _ bs zs _ R5.out RB.out).mono ?_
              by_cases heq : bs = zs
              · have HPR : Hid (prd zs = some p) := by
                  show prd zs = some p
                  rw [prd, if_pos, HCD.out]
                  exact ⟨HZL.out, HZ0.out, by rw [← HCD.out, HSS.out, heq]⟩
                rw [decide_eq_true heq]
                rintro e w6 ⟨rfl, rfl⟩
                have L6 := hid L5.out.pgr
                have HBF := hid L5.out.be
                clear L5 R5 RB HSS heq
                go_wp2
                refine bodyPost_ret (results_pg2 (x := .slice ka kn kc) (y := .slice va vn vc) (z := .slice ia jn ic) rfl _ _ _ rfl rfl (by go_simp) (by go_simp) (by go_simp)) rfl ?_
                refine ⟨((HBF.out.setCell (p := ⟨w.heap.size, 0, none⟩) (Nat.le_refl _) _).setCell (p := ⟨w.heap.size, 1, none⟩) (Nat.le_refl _) _).setCell (p := ⟨w.heap.size, 2, none⟩) (Nat.le_refl _) _, .inr ⟨p, _, _, _, _, _, _, _, _, _, HPR.out, rfl, ?_⟩⟩
                have hon : Only (fun y => y = w.heap.size) w5 (((w5.setCell ⟨w.heap.size, 0, none⟩ (.slice ka kn kc)).setCell ⟨w.heap.size, 1, none⟩ (.slice va vn vc)).setCell ⟨w.heap.size, 2, none⟩ (.slice ia jn ic)) := (only_set (R := fun y => y = w.heap.size) rfl _).trans ((only_set (R := fun y => y = w.heap.size) rfl _).trans (only_set (R := fun y => y = w.heap.size) rfl _))
                have h7 := L6.out.to hon (fun y hy _ e => by omega)
                exact ⟨Rw.mono h7.hk (fun y hy _ => by omega), Rw.mono h7.hv (fun y hy _ => by omega), Rw.mono h7.hi (fun y hy _ => by omega)⟩
              · have HPR : Hid (prd zs = none) := by
                  show prd zs = none
                  rw [prd, if_neg]
                  rintro ⟨_, _, h⟩
                  rw [← HCD.out, HSS.out] at h
                  cases h
                  exact heq rfl
                rw [decide_eq_false heq]
                rintro e w6 ⟨rfl, rfl⟩
                have HBF := hid L5.out.be
                clear L5 R5 RB HSS heq
                go_wp2
                refine bodyPost_ret (results_pg2 (x := .slice none 0 0) (y := .slice none 0 0) (z := .slice none 0 0) rfl _ _ _ rfl rfl (by go_simp) (by go_simp) (by go_simp)) rfl ?_
                exact ⟨((HBF.out.setCell (p := ⟨w.heap.size, 0, none⟩) (Nat.le_refl _) _).setCell (p := ⟨w.heap.size, 1, none⟩) (Nat.le_refl _) _).setCell (p := ⟨w.heap.size, 2, none⟩) (Nat.le_refl _) _, .inl ⟨HPR.out, rfl⟩⟩
        · have HPC : Hid (p = cd zs) := by
            have := HCD.out
            rw [cdGo_stop _ _ _ _ _ _ _ (by omega)] at this
            exact this
          have L := L4
          clear HCD L4
          have HCD := HPC
          clear HPC
          have lf := hid L.out.pgr
          obtain ⟨d0, d1, d2⟩ := L.out.cells
          go_wp2_with fail
          refine (specPageBytes_any _ ka kn kc va vn vc ia jn ic p _ lf.out).mono ?_
          intro e w5 hput
          obtain ⟨hb5, ⟨hnn, rfl⟩ | ⟨v5, bs, hss, rfl, hO5⟩⟩ := hput
          · have HPR : Hid (prd zs = none) := by
              show prd zs = none
              rw [prd, if_neg]
              rintro ⟨_, _, h⟩
              rw [← HCD.out, hnn] at h
              cases h
            have L5 := hid (L.out.below hb5)
            have r0 := L5.out.rb.cell (j := 0) rfl
            have r1 := L5.out.rb.cell (j := 1) rfl
            have r2 := L5.out.rb.cell (j := 2) rfl
            have f0 := L5.out.rb.free 0
            have f1 := L5.out.rb.free 1
            have f2 := L5.out.rb.free 2
            have HBF := hid L5.out.be
            clear hb5 hnn L lf d0 d1 d2 L5
            go_wp2
            refine bodyPost_ret (results_pg2 (x := .slice none 0 0) (y := .slice none 0 0) (z := .slice none 0 0) rfl _ _ _ rfl rfl (by go_simp) (by go_simp) (by go_simp)) rfl ?_
            exact ⟨((HBF.out.setCell (p := ⟨w.heap.size, 0, none⟩) (Nat.le_refl _) _).setCell (p := ⟨w.heap.size, 1, none⟩) (Nat.le_refl _) _).setCell (p := ⟨w.heap.size, 2, none⟩) (Nat.le_refl _) _, .inl ⟨HPR.out, rfl⟩⟩
          · have hbs := pgBytes_some hss
            obtain ⟨a5, n5, c5, rfl, R5, hn5⟩ := hO5.rdS hbs.1 (by rw [hbs.2]; omega)
            have L5 := hid (L.out.below hb5)
            have RB := hid (HR.out.kept L5.out.be)
            have HSS := hid hss
            clear hb5 hO5 hbs hss L lf d0 d1 d2
            obtain ⟨d0, d1, d2⟩ := L5.out.cells
            have r0 := L5.out.rb.cell (j := 0) rfl
            have r1 := L5.out.rb.cell (j := 1) rfl
            have r2 := L5.out.rb.cell (j := 2) rfl
            have f0 := L5.out.rb.free 0
            have f1 := L5.out.rb.free 1
            have f2 := L5.out.rb.free 2
            go_wp2_with fail
            refine (same_any a5 _ n5 _ c5 _ bs zs _ R5.out RB.out).mono ?_
            by_cases heq : bs = zs
            · have HPR : Hid (prd zs = some p) := by
                show prd zs = some p
                rw [prd, if_pos, HCD.out]
                exact ⟨HZL.out, HZ0.out, by rw [← HCD.out, HSS.out, heq]⟩
              rw [decide_eq_true heq]
              rintro e w6 ⟨rfl, rfl⟩
              have L6 := hid L5.out.pgr
              have HBF := hid L5.out.be
              clear L5 R5 RB HSS heq
              go_wp2
              refine bodyPost_ret (results_pg2 (x := .slice ka kn kc) (y := .slice va vn vc) (z := .slice ia jn ic) rfl _ _ _ rfl rfl (by go_simp) (by go_simp) (by go_simp)) rfl ?_
              refine ⟨((HBF.out.setCell (p := ⟨w.heap.size, 0, none⟩) (Nat.le_refl _) _).setCell (p := ⟨w.heap.size, 1, none⟩) (Nat.le_refl _) _).setCell (p := ⟨w.heap.size, 2, none⟩) (Nat.le_refl _) _, .inr ⟨p, _, _, _, _, _, _, _, _, _, HPR.out, rfl, ?_⟩⟩
              have hon : Only (fun y => y = w.heap.size) w5 (((w5.setCell ⟨w.heap.size, 0, none⟩ (.slice ka kn kc)).setCell ⟨w.heap.size, 1, none⟩ (.slice va vn vc)).setCell ⟨w.heap.size, 2, none⟩ (.slice ia jn ic)) := (only_set (R := fun y => y = w.heap.size) rfl _).trans ((only_set (R := fun y => y = w.heap.size) rfl _).trans (only_set (R := fun y => y = w.heap.size) rfl _))
              have h7 := L6.out.to hon (fun y hy _ e => by omega)
              exact ⟨Rw.mono h7.hk (fun y hy _ => by omega), Rw.mono h7.hv (fun y hy _ => by omega), Rw.mono h7.hi (fun y hy _ => by omega)⟩
            · have HPR : Hid (prd zs = none) := by
                show prd zs = none
                rw [prd, if_neg]
                rintro ⟨_, _, h⟩
                rw [← HCD.out, HSS.out] at h
                cases h
                exact heq rfl
              rw [decide_eq_false heq]
              rintro e w6 ⟨rfl, rfl⟩
              have HBF := hid L5.out.be
              clear L5 R5 RB HSS heq
              go_wp2
              refine bodyPost_ret (results_pg2 (x := .slice none 0 0) (y := .slice none 0 0) (z := .slice none 0 0) rfl _ _ _ rfl rfl (by go_simp) (by go_simp) (by go_simp)) rfl ?_
              exact ⟨((HBF.out.setCell (p := ⟨w.heap.size, 0, none⟩) (Nat.le_refl _) _).setCell (p := ⟨w.heap.size, 1, none⟩) (Nat.le_refl _) _).setCell (p := ⟨w.heap.size, 2, none⟩) (Nat.le_refl _) _, .inl ⟨HPR.out, rfl⟩⟩
    · by_cases z66 : zAt zs 0 = 66
      · have HZ0 : Hid (zAt zs 0 = 76 ∨ zAt zs 0 = 66) := .inr z66
        rw [if_pos z66] at HCDEF
        have HC0' : Hid (∀ v, Below w.heap.size w v → v.cell? ⟨b, off, none⟩ = some (.int .u8 66)) := fun v hv => by rw [HC0.out v hv, z66]
        rw [z66] at bS
        clear HC0 HPRN HZC hz0' z66 z76
        have HC0 := HC0'
        clear HC0'
        have RDS := hid (HR.out.kept LS.out.be)
        go_enter Tryd.func16, Tryd.ntmps16
        go_wp2_with fail
        refine (specGetVar_any _ 512 c zs 1 _ RDS.out (by omega)).mono ?_
        generalize (w.alloc (.cells #[.slice none 0 0, .slice none 0 0, .slice none 0 0] 30)).alloc (.cells #[.slice none 0 0, .slice none 0 0, .slice none 0 0] 30) = U at *
        rintro e w1 ⟨rfl, hb1⟩
        have L1 := hid (LS.out.below hb1)
        have hgv := gv_rng zs HBY.out 1
        generalize (gv zs 1).1 = n0 at *
        generalize (gv zs 1).2 = at0 at *
        clear hb1 LS RDS r0 r1 r2 f0 f1 f2 p0 p1 p2 bS
        rw [HZL.out] at hgv
        have b1 := HC0.out _ L1.out.be
        by_cases hat0 : 0 ≤ at0
        · rw [if_pos hat0] at HCDEF
          have RD1 := hid (HR.out.kept L1.out.be)
          go_wp2_with fail
          refine (specGetVar_any _ 512 c zs at0 _ RD1.out (by omega)).mono ?_
          rintro e w2 ⟨rfl, hb2⟩
          have L2 := hid (L1.out.below hb2)
          have hgv2 := gv_rng zs HBY.out at0
          generalize (gv zs at0).1 = kid0 at *
          generalize (gv zs at0).2 = at1 at *
          rw [HZL.out] at hgv2
          have L3 := hid (L2.out.below (below_new (o := .cells #[.int .i64 kid0] 3) (w := w2) (Below.refl _ _)))
          have Q3 := hid (Bk.new w2 3 [.int .i64 kid0])
          obtain ⟨d0, d1, d2⟩ := L2.out.cells
          have b2 := HC0.out _ L2.out.be
          clear hb2 L1 RD1 b1
          go_wp2_with (at_builtin; refine wpList_append_int1 rfl _ _ rfl _ 0 _ rfl L3.out.hi w2.heap.size kid0 rfl Q3.out (by omega) ?_)
          intro a8 n8 c8 w8 hO8 hg8 ha8
          obtain ⟨hL8, hB8⟩ := L3.out.addI hO8 hg8 (ha8.imp id (fun e => ⟨_, e, by simp⟩))
          have LS := hid hL8
          have b8 := hB8.cell (j := 2) rfl
          have g8 := hB8.free 2
          clear hO8 hg8 ha8 hL8 hB8 L3 Q3 L2 d0 d1 d2 b2
          go_wp2_with fail
          clear b8 g8
          go_loopw [6, 9] (fun xa xi wr => ∃ (j : Nat) (at' : Int) (ka : Option Addr) (kn kc : Nat) (va : Option Addr) (vn vc : Nat) (ia : Option Addr) (jn ic : Nat) (p : PG), xa = .int .i64 at' ∧ xi = .int .i64 j ∧ j ≤ 5 ∧ (-1 ≤ at' ∧ at' ≤ 512) ∧ Hid (p.keys.length ≤ j ∧ p.vals.length ≤ j ∧ p.kids.length ≤ j + 1) ∧ Hid (Pr1 w wr (.slice ka kn kc) (.slice va vn vc) (.slice ia jn ic) p) ∧ Hid (cdGo zs true n0 (6 - j) j p at' = cd zs)) (fun _ xi _ => 6 - (intOf xi).toNat)
          case atStart => exact ⟨0, at1, none, 0, 0, none, 0, 0, _, _, _, ⟨[], [], [] ++ [kid0]⟩, rfl, rfl, by omega, by omega, ⟨by simp, by simp, by simp⟩, LS.out, HCDEF.out.symm⟩
          case round =>
            obtain ⟨j, at', ka, kn, kc, va, vn, vc, ia, jn, ic, p, rfl, rfl, hj, hat, HPL, L4, HCD⟩ := hrel
            clear LS
            by_cases q1 : (j : Int) < n0
            · by_cases q2 : (j : Int) ≤ 4
              · by_cases q3 : 0 ≤ at'
                · have L4B := L4
                  have RD4 := hid (HR.out.kept L4.out.be)
                  have b4 := HC0.out _ L4.out.be
                  go_wp2_with fail
                  refine (specGetText_any _ _ _ zs at' _ RD4.out (by omega)).mono ?_
                  rintro e w5 ⟨rfl, hb5⟩
                  have L5 := hid ((L4.out.below hb5).below (below_new (o := .cells #[.string (strOf (gt zs at').1)] 9) (Below.refl _ _)))
                  have LL5 := hid (L4.out.below hb5)
                  have Q5 := hid (Bk.new w5 9 [.string (strOf (gt zs at').1)])
                  clear hb5 L4 RD4 b4
                  obtain ⟨d0, d1, d2⟩ := LL5.out.cells
                  have hgt := gt_range zs HBY.out at'
                  rw [HZL.out] at hgt
                  generalize hkk : strOf (gt zs at').1 = kk at *
                  have HKK := hid hkk
                  clear hkk
                  have hkn2 : kn = p.keys.length := (Rw.len L4B.out.pgr.hk).1
                  have hq1 : kn ≤ 1048576 := by have := HPL.out; omega
                  have HOK := hid L5.out.hk
                  rw [← hkn2] at HOK
                  have HKN := hid hkn2
                  clear hkn2
                  go_wp2_with (at_builtin; refine wpList_append_st1 rfl _ _ rfl _ kn _ rfl HOK.out w5.heap.size kk rfl Q5.out hq1 ?_)
                  intro a6 n6 c6 w6 hO6 hg6 ha6
                  rw [HKN.out] at hO6
                  obtain ⟨hL6, hB6⟩ := L5.out.addK hO6 hg6 (ha6.imp id (fun e => ⟨_, e, by simp⟩))
                  have L6 := hid hL6
                  have b6 := hB6.cell (j := 0) rfl
                  have g6 := hB6.free 0
                  have RD6 := hid (HR.out.kept L6.out.be)
                  have b7 := HC0.out _ L6.out.be
                  clear hO6 hg6 ha6 hL6 hB6 L5 Q5 LL5 HOK HKN d0 d1 d2
                  go_wp2_with fail
                  refine (specGetVar_any _ _ _ zs (gt zs at').2 _ RD6.out (by omega)).mono ?_
                  rintro e w7 ⟨rfl, hb7⟩
                  have L7 := hid ((L6.out.below hb7).below (below_new (o := .cells #[.int .i64 (gv zs (gt zs at').2).1] 3) (Below.refl _ _)))
                  have Q7 := hid (Bk.new w7 3 [.int .i64 (gv zs (gt zs at').2).1])
                  have LL7 := hid (L6.out.below hb7)
                  clear hb7 L6 RD6
                  obtain ⟨d0, d1, d2⟩ := LL7.out.cells
                  have hgv := gv_rng zs HBY.out (gt zs at').2
                  rw [HZL.out] at hgv
                  generalize hgk : (gv zs (gt zs at').2).1 = kid at *
                  generalize hga : (gv zs (gt zs at').2).2 = at3 at *
                  have hjn2 : jn = p.kids.length := (Rw.len L4B.out.pgr.hi).1
                  have hq2 : jn ≤ 1048576 := by have := HPL.out; omega
                  have HOW := hid L7.out.hi
                  rw [← hjn2] at HOW
                  have HJN := hid hjn2
                  clear hjn2
                  go_wp2_with (at_builtin; refine wpList_append_int1 rfl _ _ rfl _ jn _ rfl HOW.out w7.heap.size kid rfl Q7.out hq2 ?_)
                  intro a8 n8 c8 w8 hO8 hg8 ha8
                  rw [HJN.out] at hO8
                  obtain ⟨hL8, hB8⟩ := L7.out.addI hO8 hg8 (ha8.imp id (fun e => ⟨_, e, by simp⟩))
                  have L8 := hid hL8
                  have b8 := hB8.cell (j := 2) rfl
                  have g8 := hB8.free 2
                  have HCX : Hid (cdGo zs true n0 (6 - (j + 1)) (j + 1) ⟨p.keys ++ [kk], p.vals, p.kids ++ [kid]⟩ at3 = cd zs) := by
                    have := HCD.out
                    rw [show 6 - j = (6 - (j + 1)) + 1 by omega, cdGo_on _ _ _ _ _ _ _ ⟨q1, by omega, q3⟩] at this
                    show _ = cd zs
                    simpa [cdStep, HKK.out, hgk, hga] using this
                  clear hO8 hg8 ha8 hL8 hB8 L7 Q7 LL7 HOW hgk hga HJN
                  go_wp2
                  go_roundw
                  case rel => exact ⟨j + 1, at3, _, _, _, _, _, _, _, _, _, _, rfl, by go_num, by omega, by omega, by have := HPL.out; exact ⟨by simp; omega, by simp; omega, by simp; omega⟩, L8.out, HCX.out⟩
                  case measure => simp [intOf]; omega
                · have HPC : Hid (p = cd zs) := by
                    have := HCD.out
                    rw [cdGo_stop _ _ _ _ _ _ _ (by omega)] at this
                    exact this
                  have L := L4
                  clear HCD L4
                  have HCD := HPC
                  clear HPC
                  have lf := hid L.out.pgr
                  obtain ⟨d0, d1, d2⟩ := L.out.cells
                  go_wp2_with fail
                  refine (specPageBytes_any _ ka kn kc va vn vc ia jn ic p _ lf.out).mono ?_
                  intro e w5 hput
                  obtain ⟨hb5, ⟨hnn, rfl⟩ | ⟨v5, bs, hss, rfl, hO5⟩⟩ := hput
                  · have HPR : Hid (prd zs = none) := by
                      show prd zs = none
                      rw [prd, if_neg]
                      rintro ⟨_, _, h⟩
                      rw [← HCD.out, hnn] at h
                      cases h
                    have L5 := hid (L.out.below hb5)
                    have r0 := L5.out.rb.cell (j := 0) rfl
                    have r1 := L5.out.rb.cell (j := 1) rfl
                    have r2 := L5.out.rb.cell (j := 2) rfl
                    have f0 := L5.out.rb.free 0
                    have f1 := L5.out.rb.free 1
                    have f2 := L5.out.rb.free 2
                    have HBF := hid L5.out.be
                    clear hb5 hnn L lf d0 d1 d2 L5
                    go_wp2
                    refine bodyPost_ret (results_pg2 (x := .slice none 0 0) (y := .slice none 0 0) (z := .slice none 0 0) rfl _ _ _ rfl rfl (by go_simp) (by go_simp) (by go_simp)) rfl ?_
                    exact ⟨((HBF.out.setCell (p := ⟨w.heap.size, 0, none⟩) (Nat.le_refl _) _).setCell (p := ⟨w.heap.size, 1, none⟩) (Nat.le_refl _) _).setCell (p := ⟨w.heap.size, 2, none⟩) (Nat.le_refl _) _, .inl ⟨HPR.out, rfl⟩⟩
                  · have hbs := pgBytes_some hss
                    obtain ⟨a5, n5, c5, rfl, R5, hn5⟩ := hO5.rdS hbs.1 (by rw [hbs.2]; omega)
                    have L5 := hid (L.out.below hb5)
                    have RB := hid (HR.out.kept L5.out.be)
                    have HSS := hid hss
                    clear hb5 hO5 hbs hss L lf d0 d1 d2
                    obtain ⟨d0, d1, d2⟩ := L5.out.cells
                    have r0 := L5.out.rb.cell (j := 0) rfl
                    have r1 := L5.out.rb.cell (j := 1) rfl
                    have r2 := L5.out.rb.cell (j := 2) rfl
                    have f0 := L5.out.rb.free 0
                    have f1 := L5.out.rb.free 1
                    have f2 := L5.out.rb.free 2
                    go_wp2_with fail
                    refine (same_any a5 _ n5 _ c5 _ bs zs _ R5.out RB.out).mono ?_
                    by_cases heq : bs = zs
                    · have HPR : Hid (prd zs = some p) := by
                        show prd zs = some p
                        rw [prd, if_pos, HCD.out]
                        exact ⟨HZL.out, HZ0.out, by rw [← HCD.out, HSS.out, heq]⟩
                      rw [decide_eq_true heq]
                      rintro e w6 ⟨rfl, rfl⟩
                      have L6 := hid L5.out.pgr
                      have HBF := hid L5.out.be
                      clear L5 R5 RB HSS heq
                      go_wp2
                      refine bodyPost_ret (results_pg2 (x := .slice ka kn kc) (y := .slice va vn vc) (z := .slice ia jn ic) rfl _ _ _ rfl rfl (by go_simp) (by go_simp) (by go_simp)) rfl ?_
                      refine ⟨((HBF.out.setCell (p := ⟨w.heap.size, 0, none⟩) (Nat.le_refl _) _).setCell (p := ⟨w.heap.size, 1, none⟩) (Nat.le_refl _) _).setCell (p := ⟨w.heap.size, 2, none⟩) (Nat.le_refl _) _, .inr ⟨p, _, _, _, _, _, _, _, _, _, HPR.out, rfl, ?_⟩⟩
                      have hon : Only (fun y => y = w.heap.size) w5 (((w5.setCell ⟨w.heap.size, 0, none⟩ (.slice ka kn kc)).setCell ⟨w.heap.size, 1, none⟩ (.slice va vn vc)).setCell ⟨w.heap.size, 2, none⟩ (.slice ia jn ic)) := (only_set (R := fun y => y = w.heap.size) rfl _).trans ((only_set (R := fun y => y = w.heap.size) rfl _).trans (only_set (R := fun y => y = w.heap.size) rfl _))
                      have h7 := L6.out.to hon (fun y hy _ e => by omega)
                      exact ⟨Rw.mono h7.hk (fun y hy _ => by omega), Rw.mono h7.hv (fun y hy _ => by omega), Rw.mono h7.hi (fun y hy _ => by omega)⟩
                    · have HPR : Hid (prd zs = none) := by
                        show prd zs = none
                        rw [prd, if_neg]
                        rintro ⟨_, _, h⟩
                        rw [← HCD.out, HSS.out] at h
                        cases h
                        exact heq rfl
                      rw [decide_eq_false heq]
                      rintro e w6 ⟨rfl, rfl⟩
                      have HBF := hid L5.out.be
                      clear L5 R5 RB HSS heq
                      go_wp2
                      refine bodyPost_ret (results_pg2 (x := .slice none 0 0) (y := .slice none 0 0) (z := .slice none 0 0) rfl _ _ _ rfl rfl (by go_simp) (by go_simp) (by go_simp)) rfl ?_
                      exact ⟨((HBF.out.setCell (p := ⟨w.heap.size, 0, none⟩) (Nat.le_refl _) _).setCell (p := ⟨w.heap.size, 1, none⟩) (Nat.le_refl _) _).setCell (p := ⟨w.heap.size, 2, none⟩) (Nat.le_refl _) _, .inl ⟨HPR.out, rfl⟩⟩
              · have HPC : Hid (p = cd zs) := by
                  have := HCD.out
                  rw [cdGo_stop _ _ _ _ _ _ _ (by omega)] at this
                  exact this
                have L := L4
                clear HCD L4
                have HCD := HPC
                clear HPC
                have lf := hid L.out.pgr
                obtain ⟨d0, d1, d2⟩ := L.out.cells
                go_wp2_with fail
                refine (specPageBytes_any _ ka kn kc va vn vc ia jn ic p _ lf.out).mono ?_
                intro e w5 hput
                obtain ⟨hb5, ⟨hnn, rfl⟩ | ⟨v5, bs, hss, rfl, hO5⟩⟩ := hput
                · have HPR : Hid (prd zs = none) := by
                    show prd zs = none
                    rw [prd, if_neg]
                    rintro ⟨_, _, h⟩
                    rw [← HCD.out, hnn] at h
                    cases h
                  have L5 := hid (L.out.below hb5)
                  have r0 := L5.out.rb.cell (j := 0) rfl
                  have r1 := L5.out.rb.cell (j := 1) rfl
                  have r2 := L5.out.rb.cell (j := 2) rfl
                  have f0 := L5.out.rb.free 0
                  have f1 := L5.out.rb.free 1
                  have f2 := L5.out.rb.free 2
                  have HBF := hid L5.out.be
                  clear hb5 hnn L lf d0 d1 d2 L5
                  go_wp2
                  refine bodyPost_ret (results_pg2 (x := .slice none 0 0) (y := .slice none 0 0) (z := .slice none 0 0) rfl _ _ _ rfl rfl (by go_simp) (by go_simp) (by go_simp)) rfl ?_
                  exact ⟨((HBF.out.setCell (p := ⟨w.heap.size, 0, none⟩) (Nat.le_refl _) _).setCell (p := ⟨w.heap.size, 1, none⟩) (Nat.le_refl _) _).setCell (p := ⟨w.heap.size, 2, none⟩) (Nat.le_refl _) _, .inl ⟨HPR.out, rfl⟩⟩
                · have hbs := pgBytes_some hss
                  obtain ⟨a5, n5, c5, rfl, R5, hn5⟩ := hO5.rdS hbs.1 (by rw [hbs.2]; omega)
                  have L5 := hid (L.out.below hb5)
                  have RB := hid (HR.out.kept L5.out.be)
                  have HSS := hid hss
                  clear hb5 hO5 hbs hss L lf d0 d1 d2
                  obtain ⟨d0, d1, d2⟩ := L5.out.cells
                  have r0 := L5.out.rb.cell (j := 0) rfl
                  have r1 := L5.out.rb.cell (j := 1) rfl
                  have r2 := L5.out.rb.cell (j := 2) rfl
                  have f0 := L5.out.rb.free 0
                  have f1 := L5.out.rb.free 1
                  have f2 := L5.out.rb.free 2
                  go_wp2_with fail
                  refine (same_any a5 _ n5 _ c5 _ bs zs _ R5.out RB.out).mono ?_
                  by_cases heq : bs = zs
                  · have HPR : Hid (prd zs = some p) := by
                      show prd zs = some p
                      rw [prd, if_pos, HCD.out]
                      exact ⟨HZL.out, HZ0.out, by rw [← HCD.out, HSS.out, heq]⟩
                    rw [decide_eq_true heq]
                    rintro e w6 ⟨rfl, rfl⟩
                    have L6 := hid L5.out.pgr
                    have HBF := hid L5.out.be
                    clear L5 R5 RB HSS heq
                    go_wp2
                    refine bodyPost_ret (results_pg2 (x := .slice ka kn kc) (y := .slice va vn vc) (z := .slice ia jn ic) rfl _ _ _ rfl rfl (by go_simp) (by go_simp) (by go_simp)) rfl ?_
                    refine ⟨((HBF.out.setCell (p := ⟨w.heap.size, 0, none⟩) (Nat.le_refl _) _).setCell (p := ⟨w.heap.size, 1, none⟩) (Nat.le_refl _) _).setCell (p := ⟨w.heap.size, 2, none⟩) (Nat.le_refl _) _, .inr ⟨p, _, _, _, _, _, _, _, _, _, HPR.out, rfl, ?_⟩⟩
                    have hon : Only (fun y => y = w.heap.size) w5 (((w5.setCell ⟨w.heap.size, 0, none⟩ (.slice ka kn kc)).setCell ⟨w.heap.size, 1, none⟩ (.slice va vn vc)).setCell ⟨w.heap.size, 2, none⟩ (.slice ia jn ic)) := (only_set (R := fun y => y = w.heap.size) rfl _).trans ((only_set (R := fun y => y = w.heap.size) rfl _).trans (only_set (R := fun y => y = w.heap.size) rfl _))
                    have h7 := L6.out.to hon (fun y hy _ e => by omega)
                    exact ⟨Rw.mono h7.hk (fun y hy _ => by omega), Rw.mono h7.hv (fun y hy _ => by omega), Rw.mono h7.hi (fun y hy _ => by omega)⟩
                  · have HPR : Hid (prd zs = none) := by
                      show prd zs = none
                      rw [prd, if_neg]
                      rintro ⟨_, _, h⟩
                      rw [← HCD.out, HSS.out] at h
                      cases h
                      exact heq rfl
                    rw [decide_eq_false heq]
                    rintro e w6 ⟨rfl, rfl⟩
                    have HBF := hid L5.out.be
                    clear L5 R5 RB HSS heq
                    go_wp2
                    refine bodyPost_ret (results_pg2 (x := .slice none 0 0) (y := .slice none 0 0) (z := .slice none 0 0) rfl _ _ _ rfl rfl (by go_simp) (by go_simp) (by go_simp)) rfl ?_
                    exact ⟨((HBF.out.setCell (p := ⟨w.heap.size, 0, none⟩) (Nat.le_refl _) _).setCell (p := ⟨w.heap.size, 1, none⟩) (Nat.le_refl _) _).setCell (p := ⟨w.heap.size, 2, none⟩) (Nat.le_refl _) _, .inl ⟨HPR.out, rfl⟩⟩
            · have HPC : Hid (p = cd zs) := by
                have := HCD.out
                rw [cdGo_stop _ _ _ _ _ _ _ (by omega)] at this
                exact this
              have L := L4
              clear HCD L4
              have HCD := HPC
              clear HPC
              have lf := hid L.out.pgr
              obtain ⟨d0, d1, d2⟩ := L.out.cells
              go_wp2_with fail
              refine (specPageBytes_any _ ka kn kc va vn vc ia jn ic p _ lf.out).mono ?_
              intro e w5 hput
              obtain ⟨hb5, ⟨hnn, rfl⟩ | ⟨v5, bs, hss, rfl, hO5⟩⟩ := hput
              · have HPR : Hid (prd zs = none) := by
                  show prd zs = none
                  rw [prd, if_neg]
                  rintro ⟨_, _, h⟩
                  rw [← HCD.out, hnn] at h
                  cases h
                have L5 := hid (L.out.below hb5)
                have r0 := L5.out.rb.cell (j := 0) rfl
                have r1 := L5.out.rb.cell (j := 1) rfl
                have r2 := L5.out.rb.cell (j := 2) rfl
                have f0 := L5.out.rb.free 0
                have f1 := L5.out.rb.free 1
                have f2 := L5.out.rb.free 2
                have HBF := hid L5.out.be
                clear hb5 hnn L lf d0 d1 d2 L5
                go_wp2
                refine bodyPost_ret (results_pg2 (x := .slice none 0 0) (y := .slice none 0 0) (z := .slice none 0 0) rfl _ _ _ rfl rfl (by go_simp) (by go_simp) (by go_simp)) rfl ?_
                exact ⟨((HBF.out.setCell (p := ⟨w.heap.size, 0, none⟩) (Nat.le_refl _) _).setCell (p := ⟨w.heap.size, 1, none⟩) (Nat.le_refl _) _).setCell (p := ⟨w.heap.size, 2, none⟩) (Nat.le_refl _) _, .inl ⟨HPR.out, rfl⟩⟩
              · have hbs := pgBytes_some hss
                obtain ⟨a5, n5, c5, rfl, R5, hn5⟩ := hO5.rdS hbs.1 (by rw [hbs.2]; omega)
                have L5 := hid (L.out.below hb5)
                have RB := hid (HR.out.kept L5.out.be)
                have HSS := hid hss
                clear hb5 hO5 hbs hss L lf d0 d1 d2
                obtain ⟨d0, d1, d2⟩ := L5.out.cells
                have r0 := L5.out.rb.cell (j := 0) rfl
                have r1 := L5.out.rb.cell (j := 1) rfl
                have r2 := L5.out.rb.cell (j := 2) rfl
                have f0 := L5.out.rb.free 0
                have f1 := L5.out.rb.free 1
                have f2 := L5.out.rb.free 2
                go_wp2_with fail
                refine (same_any a5 _ n5 _ c5 _ bs zs _ R5.out RB.out).mono ?_
                by_cases heq : bs = zs
                · have HPR : Hid (prd zs = some p) := by
                    show prd zs = some p
                    rw [prd, if_pos, HCD.out]
                    exact ⟨HZL.out, HZ0.out, by rw [← HCD.out, HSS.out, heq]⟩
                  rw [decide_eq_true heq]
                  rintro e w6 ⟨rfl, rfl⟩
                  have L6 := hid L5.out.pgr
                  have HBF := hid L5.out.be
                  clear L5 R5 RB HSS heq
                  go_wp2
                  refine bodyPost_ret (results_pg2 (x := .slice ka kn kc) (y := .slice va vn vc) (z := .slice ia jn ic) rfl _ _ _ rfl rfl (by go_simp) (by go_simp) (by go_simp)) rfl ?_
                  refine ⟨((HBF.out.setCell (p := ⟨w.heap.size, 0, none⟩) (Nat.le_refl _) _).setCell (p := ⟨w.heap.size, 1, none⟩) (Nat.le_refl _) _).setCell (p := ⟨w.heap.size, 2, none⟩) (Nat.le_refl _) _, .inr ⟨p, _, _, _, _, _, _, _, _, _, HPR.out, rfl, ?_⟩⟩
                  have hon : Only (fun y => y = w.heap.size) w5 (((w5.setCell ⟨w.heap.size, 0, none⟩ (.slice ka kn kc)).setCell ⟨w.heap.size, 1, none⟩ (.slice va vn vc)).setCell ⟨w.heap.size, 2, none⟩ (.slice ia jn ic)) := (only_set (R := fun y => y = w.heap.size) rfl _).trans ((only_set (R := fun y => y = w.heap.size) rfl _).trans (only_set (R := fun y => y = w.heap.size) rfl _))
                  have h7 := L6.out.to hon (fun y hy _ e => by omega)
                  exact ⟨Rw.mono h7.hk (fun y hy _ => by omega), Rw.mono h7.hv (fun y hy _ => by omega), Rw.mono h7.hi (fun y hy _ => by omega)⟩
                · have HPR : Hid (prd zs = none) := by
                    show prd zs = none
                    rw [prd, if_neg]
                    rintro ⟨_, _, h⟩
                    rw [← HCD.out, HSS.out] at h
                    cases h
                    exact heq rfl
                  rw [decide_eq_false heq]
                  rintro e w6 ⟨rfl, rfl⟩
                  have HBF := hid L5.out.be
                  clear L5 R5 RB HSS heq
                  go_wp2
                  refine bodyPost_ret (results_pg2 (x := .slice none 0 0) (y := .slice none 0 0) (z := .slice none 0 0) rfl _ _ _ rfl rfl (by go_simp) (by go_simp) (by go_simp)) rfl ?_
                  exact ⟨((HBF.out.setCell (p := ⟨w.heap.size, 0, none⟩) (Nat.le_refl _) _).setCell (p := ⟨w.heap.size, 1, none⟩) (Nat.le_refl _) _).setCell (p := ⟨w.heap.size, 2, none⟩) (Nat.le_refl _) _, .inl ⟨HPR.out, rfl⟩⟩
        · rw [if_neg hat0] at HCDEF
          have LS := L1
          clear L1
          go_wp2_with fail
          clear b1
          go_loopw [6, 9] (fun xa xi wr => ∃ (j : Nat) (at' : Int) (ka : Option Addr) (kn kc : Nat) (va : Option Addr) (vn vc : Nat) (ia : Option Addr) (jn ic : Nat) (p : PG), xa = .int .i64 at' ∧ xi = .int .i64 j ∧ j ≤ 5 ∧ (-1 ≤ at' ∧ at' ≤ 512) ∧ Hid (p.keys.length ≤ j ∧ p.vals.length ≤ j ∧ p.kids.length ≤ j + 1) ∧ Hid (Pr1 w wr (.slice ka kn kc) (.slice va vn vc) (.slice ia jn ic) p) ∧ Hid (cdGo zs true n0 (6 - j) j p at' = cd zs)) (fun _ xi _ => 6 - (intOf xi).toNat)
          case atStart => exact ⟨0, at0, none, 0, 0, none, 0, 0, none, 0, 0, ⟨[], [], []⟩, rfl, rfl, by omega, by omega, ⟨by simp, by simp, by simp⟩, LS.out, HCDEF.out.symm⟩
          case round =>
            obtain ⟨j, at', ka, kn, kc, va, vn, vc, ia, jn, ic, p, rfl, rfl, hj, hat, HPL, L4, HCD⟩ := hrel
            clear LS
            by_cases q1 : (j : Int) < n0
            · by_cases q2 : (j : Int) ≤ 4
              · by_cases q3 : 0 ≤ at'
                · have L4B := L4
                  have RD4 := hid (HR.out.kept L4.out.be)
                  have b4 := HC0.out _ L4.out.be
                  go_wp2_with fail
                  refine (specGetText_any _ _ _ zs at' _ RD4.out (by omega)).mono ?_
                  rintro e w5 ⟨rfl, hb5⟩
                  have L5 := hid ((L4.out.below hb5).below (below_new (o := .cells #[.string (strOf (gt zs at').1)] 9) (Below.refl _ _)))
                  have LL5 := hid (L4.out.below hb5)
                  have Q5 := hid (Bk.new w5 9 [.string (strOf (gt zs at').1)])
                  clear hb5 L4 RD4 b4
                  obtain ⟨d0, d1, d2⟩ := LL5.out.cells
                  have hgt := gt_range zs HBY.out at'
                  rw [HZL.out] at hgt
                  generalize hkk : strOf (gt zs at').1 = kk at *
                  have HKK := hid hkk
                  clear hkk
                  have hkn2 : kn = p.keys.length := (Rw.len L4B.out.pgr.hk).1
                  have hq1 : kn ≤ 1048576 := by have := HPL.out; omega
                  have HOK := hid L5.out.hk
                  rw [← hkn2] at HOK
                  have HKN := hid hkn2
                  clear hkn2
                  go_wp2_with (at_builtin; refine wpList_append_st1 rfl _ _ rfl _ kn _ rfl HOK.out w5.heap.size kk rfl Q5.out hq1 ?_)
                  intro a6 n6 c6 w6 hO6 hg6 ha6
                  rw [HKN.out] at hO6
                  obtain ⟨hL6, hB6⟩ := L5.out.addK hO6 hg6 (ha6.imp id (fun e => ⟨_, e, by simp⟩))
                  have L6 := hid hL6
                  have b6 := hB6.cell (j := 0) rfl
                  have g6 := hB6.free 0
                  have RD6 := hid (HR.out.kept L6.out.be)
                  have b7 := HC0.out _ L6.out.be
                  clear hO6 hg6 ha6 hL6 hB6 L5 Q5 LL5 HOK HKN d0 d1 d2
                  go_wp2_with fail
                  refine (specGetVar_any _ _ _ zs (gt zs at').2 _ RD6.out (by omega)).mono ?_
                  rintro e w7 ⟨rfl, hb7⟩
                  have L7 := hid ((L6.out.below hb7).below (below_new (o := .cells #[.int .i64 (gv zs (gt zs at').2).1] 3) (Below.refl _ _)))
                  have Q7 := hid (Bk.new w7 3 [.int .i64 (gv zs (gt zs at').2).1])
                  have LL7 := hid (L6.out.below hb7)
                  clear hb7 L6 RD6
                  obtain ⟨d0, d1, d2⟩ := LL7.out.cells
                  have hgv := gv_rng zs HBY.out (gt zs at').2
                  rw [HZL.out] at hgv
                  generalize hgk : (gv zs (gt zs at').2).1 = kid at *
                  generalize hga : (gv zs (gt zs at').2).2 = at3 at *
                  have hjn2 : jn = p.kids.length := (Rw.len L4B.out.pgr.hi).1
                  have hq2 : jn ≤ 1048576 := by have := HPL.out; omega
                  have HOW := hid L7.out.hi
                  rw [← hjn2] at HOW
                  have HJN := hid hjn2
                  clear hjn2
                  go_wp2_with (at_builtin; refine wpList_append_int1 rfl _ _ rfl _ jn _ rfl HOW.out w7.heap.size kid rfl Q7.out hq2 ?_)
                  intro a8 n8 c8 w8 hO8 hg8 ha8
                  rw [HJN.out] at hO8
                  obtain ⟨hL8, hB8⟩ := L7.out.addI hO8 hg8 (ha8.imp id (fun e => ⟨_, e, by simp⟩))
                  have L8 := hid hL8
                  have b8 := hB8.cell (j := 2) rfl
                  have g8 := hB8.free 2
                  have HCX : Hid (cdGo zs true n0 (6 - (j + 1)) (j + 1) ⟨p.keys ++ [kk], p.vals, p.kids ++ [kid]⟩ at3 = cd zs) := by
                    have := HCD.out
                    rw [show 6 - j = (6 - (j + 1)) + 1 by omega, cdGo_on _ _ _ _ _ _ _ ⟨q1, by omega, q3⟩] at this
                    show _ = cd zs
                    simpa [cdStep, HKK.out, hgk, hga] using this
                  clear hO8 hg8 ha8 hL8 hB8 L7 Q7 LL7 HOW hgk hga HJN
                  go_wp2
                  go_roundw
                  case rel => exact ⟨j + 1, at3, _, _, _, _, _, _, _, _, _, _, rfl, by go_num, by omega, by omega, by have := HPL.out; exact ⟨by simp; omega, by simp; omega, by simp; omega⟩, L8.out, HCX.out⟩
                  case measure => simp [intOf]; omega
                · have HPC : Hid (p = cd zs) := by
                    have := HCD.out
                    rw [cdGo_stop _ _ _ _ _ _ _ (by omega)] at this
                    exact this
                  have L := L4
                  clear HCD L4
                  have HCD := HPC
                  clear HPC
                  have lf := hid L.out.pgr
                  obtain ⟨d0, d1, d2⟩ := L.out.cells
                  go_wp2_with fail
                  refine (specPageBytes_any _ ka kn kc va vn vc ia jn ic p _ lf.out).mono ?_
                  intro e w5 hput
                  obtain ⟨hb5, ⟨hnn, rfl⟩ | ⟨v5, bs, hss, rfl, hO5⟩⟩ := hput
                  · have HPR : Hid (prd zs = none) := by
                      show prd zs = none
                      rw [prd, if_neg]
                      rintro ⟨_, _, h⟩
                      rw [← HCD.out, hnn] at h
                      cases h
                    have L5 := hid (L.out.below hb5)
                    have r0 := L5.out.rb.cell (j := 0) rfl
                    have r1 := L5.out.rb.cell (j := 1) rfl
                    have r2 := L5.out.rb.cell (j := 2) rfl
                    have f0 := L5.out.rb.free 0
                    have f1 := L5.out.rb.free 1
                    have f2 := L5.out.rb.free 2
                    have HBF := hid L5.out.be
                    clear hb5 hnn L lf d0 d1 d2 L5
                    go_wp2
                    refine bodyPost_ret (results_pg2 (x := .slice none 0 0) (y := .slice none 0 0) (z := .slice none 0 0) rfl _ _ _ rfl rfl (by go_simp) (by go_simp) (by go_simp)) rfl ?_
                    exact ⟨((HBF.out.setCell (p := ⟨w.heap.size, 0, none⟩) (Nat.le_refl _) _).setCell (p := ⟨w.heap.size, 1, none⟩) (Nat.le_refl _) _).setCell (p := ⟨w.heap.size, 2, none⟩) (Nat.le_refl _) _, .inl ⟨HPR.out, rfl⟩⟩
                  · have hbs := pgBytes_some hss
                    obtain ⟨a5, n5, c5, rfl, R5, hn5⟩ := hO5.rdS hbs.1 (by rw [hbs.2]; omega)
                    have L5 := hid (L.out.below hb5)
                    have RB := hid (HR.out.kept L5.out.be)
                    have HSS := hid hss
                    clear hb5 hO5 hbs hss L lf d0 d1 d2
                    obtain ⟨d0, d1, d2⟩ := L5.out.cells
                    have r0 := L5.out.rb.cell (j := 0) rfl
                    have r1 := L5.out.rb.cell (j := 1) rfl
                    have r2 := L5.out.rb.cell (j := 2) rfl
                    have f0 := L5.out.rb.free 0
                    have f1 := L5.out.rb.free 1
                    have f2 := L5.out.rb.free 2
                    go_wp2_with fail
                    refine (same_any a5 _ n5 _ c5 _ bs zs _ R5.out RB.out).mono ?_
                    by_cases heq : bs = zs
                    · have HPR : Hid (prd zs = some p) := by
                        show prd zs = some p
                        rw [prd, if_pos, HCD.out]
                        exact ⟨HZL.out, HZ0.out, by rw [← HCD.out, HSS.out, heq]⟩
                      rw [decide_eq_true heq]
                      rintro e w6 ⟨rfl, rfl⟩
                      have L6 := hid L5.out.pgr
                      have HBF := hid L5.out.be
                      clear L5 R5 RB HSS heq
                      go_wp2
                      refine bodyPost_ret (results_pg2 (x := .slice ka kn kc) (y := .slice va vn vc) (z := .slice ia jn ic) rfl _ _ _ rfl rfl (by go_simp) (by go_simp) (by go_simp)) rfl ?_
                      refine ⟨((HBF.out.setCell (p := ⟨w.heap.size, 0, none⟩) (Nat.le_refl _) _).setCell (p := ⟨w.heap.size, 1, none⟩) (Nat.le_refl _) _).setCell (p := ⟨w.heap.size, 2, none⟩) (Nat.le_refl _) _, .inr ⟨p, _, _, _, _, _, _, _, _, _, HPR.out, rfl, ?_⟩⟩
                      have hon : Only (fun y => y = w.heap.size) w5 (((w5.setCell ⟨w.heap.size, 0, none⟩ (.slice ka kn kc)).setCell ⟨w.heap.size, 1, none⟩ (.slice va vn vc)).setCell ⟨w.heap.size, 2, none⟩ (.slice ia jn ic)) := (only_set (R := fun y => y = w.heap.size) rfl _).trans ((only_set (R := fun y => y = w.heap.size) rfl _).trans (only_set (R := fun y => y = w.heap.size) rfl _))
                      have h7 := L6.out.to hon (fun y hy _ e => by omega)
                      exact ⟨Rw.mono h7.hk (fun y hy _ => by omega), Rw.mono h7.hv (fun y hy _ => by omega), Rw.mono h7.hi (fun y hy _ => by omega)⟩
                    · have HPR : Hid (prd zs = none) := by
                        show prd zs = none
                        rw [prd, if_neg]
                        rintro ⟨_, _, h⟩
                        rw [← HCD.out, HSS.out] at h
                        cases h
                        exact heq rfl
                      rw [decide_eq_false heq]
                      rintro e w6 ⟨rfl, rfl⟩
                      have HBF := hid L5.out.be
                      clear L5 R5 RB HSS heq
                      go_wp2
                      refine bodyPost_ret (results_pg2 (x := .slice none 0 0) (y := .slice none 0 0) (z := .slice none 0 0) rfl _ _ _ rfl rfl (by go_simp) (by go_simp) (by go_simp)) rfl ?_
                      exact ⟨((HBF.out.setCell (p := ⟨w.heap.size, 0, none⟩) (Nat.le_refl _) _).setCell (p := ⟨w.heap.size, 1, none⟩) (Nat.le_refl _) _).setCell (p := ⟨w.heap.size, 2, none⟩) (Nat.le_refl _) _, .inl ⟨HPR.out, rfl⟩⟩
              · have HPC : Hid (p = cd zs) := by
                  have := HCD.out
                  rw [cdGo_stop _ _ _ _ _ _ _ (by omega)] at this
                  exact this
                have L := L4
                clear HCD L4
                have HCD := HPC
                clear HPC
                have lf := hid L.out.pgr
                obtain ⟨d0, d1, d2⟩ := L.out.cells
                go_wp2_with fail
                refine (specPageBytes_any _ ka kn kc va vn vc ia jn ic p _ lf.out).mono ?_
                intro e w5 hput
                obtain ⟨hb5, ⟨hnn, rfl⟩ | ⟨v5, bs, hss, rfl, hO5⟩⟩ := hput
                · have HPR : Hid (prd zs = none) := by
                    show prd zs = none
                    rw [prd, if_neg]
                    rintro ⟨_, _, h⟩
                    rw [← HCD.out, hnn] at h
                    cases h
                  have L5 := hid (L.out.below hb5)
                  have r0 := L5.out.rb.cell (j := 0) rfl
                  have r1 := L5.out.rb.cell (j := 1) rfl
                  have r2 := L5.out.rb.cell (j := 2) rfl
                  have f0 := L5.out.rb.free 0
                  have f1 := L5.out.rb.free 1
                  have f2 := L5.out.rb.free 2
                  have HBF := hid L5.out.be
                  clear hb5 hnn L lf d0 d1 d2 L5
                  go_wp2
                  refine bodyPost_ret (results_pg2 (x := .slice none 0 0) (y := .slice none 0 0) (z := .slice none 0 0) rfl _ _ _ rfl rfl (by go_simp) (by go_simp) (by go_simp)) rfl ?_
                  exact ⟨((HBF.out.setCell (p := ⟨w.heap.size, 0, none⟩) (Nat.le_refl _) _).setCell (p := ⟨w.heap.size, 1, none⟩) (Nat.le_refl _) _).setCell (p := ⟨w.heap.size, 2, none⟩) (Nat.le_refl _) _, .inl ⟨HPR.out, rfl⟩⟩
                · have hbs := pgBytes_some hss
                  obtain ⟨a5, n5, c5, rfl, R5, hn5⟩ := hO5.rdS hbs.1 (by rw [hbs.2]; omega)
                  have L5 := hid (L.out.below hb5)
                  have RB := hid (HR.out.kept L5.out.be)
                  have HSS := hid hss
                  clear hb5 hO5 hbs hss L lf d0 d1 d2
                  obtain ⟨d0, d1, d2⟩ := L5.out.cells
                  have r0 := L5.out.rb.cell (j := 0) rfl
                  have r1 := L5.out.rb.cell (j := 1) rfl
                  have r2 := L5.out.rb.cell (j := 2) rfl
                  have f0 := L5.out.rb.free 0
                  have f1 := L5.out.rb.free 1
                  have f2 := L5.out.rb.free 2
                  go_wp2_with fail
                  refine (same_any a5 _ n5 _ c5 _ bs zs _ R5.out RB.out).mono ?_
                  by_cases heq : bs = zs
                  · have HPR : Hid (prd zs = some p) := by
                      show prd zs = some p
                      rw [prd, if_pos, HCD.out]
                      exact ⟨HZL.out, HZ0.out, by rw [← HCD.out, HSS.out, heq]⟩
                    rw [decide_eq_true heq]
                    rintro e w6 ⟨rfl, rfl⟩
                    have L6 := hid L5.out.pgr
                    have HBF := hid L5.out.be
                    clear L5 R5 RB HSS heq
                    go_wp2
                    refine bodyPost_ret (results_pg2 (x := .slice ka kn kc) (y := .slice va vn vc) (z := .slice ia jn ic) rfl _ _ _ rfl rfl (by go_simp) (by go_simp) (by go_simp)) rfl ?_
                    refine ⟨((HBF.out.setCell (p := ⟨w.heap.size, 0, none⟩) (Nat.le_refl _) _).setCell (p := ⟨w.heap.size, 1, none⟩) (Nat.le_refl _) _).setCell (p := ⟨w.heap.size, 2, none⟩) (Nat.le_refl _) _, .inr ⟨p, _, _, _, _, _, _, _, _, _, HPR.out, rfl, ?_⟩⟩
                    have hon : Only (fun y => y = w.heap.size) w5 (((w5.setCell ⟨w.heap.size, 0, none⟩ (.slice ka kn kc)).setCell ⟨w.heap.size, 1, none⟩ (.slice va vn vc)).setCell ⟨w.heap.size, 2, none⟩ (.slice ia jn ic)) := (only_set (R := fun y => y = w.heap.size) rfl _).trans ((only_set (R := fun y => y = w.heap.size) rfl _).trans (only_set (R := fun y => y = w.heap.size) rfl _))
                    have h7 := L6.out.to hon (fun y hy _ e => by omega)
                    exact ⟨Rw.mono h7.hk (fun y hy _ => by omega), Rw.mono h7.hv (fun y hy _ => by omega), Rw.mono h7.hi (fun y hy _ => by omega)⟩
                  · have HPR : Hid (prd zs = none) := by
                      show prd zs = none
                      rw [prd, if_neg]
                      rintro ⟨_, _, h⟩
                      rw [← HCD.out, HSS.out] at h
                      cases h
                      exact heq rfl
                    rw [decide_eq_false heq]
                    rintro e w6 ⟨rfl, rfl⟩
                    have HBF := hid L5.out.be
                    clear L5 R5 RB HSS heq
                    go_wp2
                    refine bodyPost_ret (results_pg2 (x := .slice none 0 0) (y := .slice none 0 0) (z := .slice none 0 0) rfl _ _ _ rfl rfl (by go_simp) (by go_simp) (by go_simp)) rfl ?_
                    exact ⟨((HBF.out.setCell (p := ⟨w.heap.size, 0, none⟩) (Nat.le_refl _) _).setCell (p := ⟨w.heap.size, 1, none⟩) (Nat.le_refl _) _).setCell (p := ⟨w.heap.size, 2, none⟩) (Nat.le_refl _) _, .inl ⟨HPR.out, rfl⟩⟩
            · have HPC : Hid (p = cd zs) := by
                have := HCD.out
                rw [cdGo_stop _ _ _ _ _ _ _ (by omega)] at this
                exact this
              have L := L4
              clear HCD L4
              have HCD := HPC
              clear HPC
              have lf := hid L.out.pgr
              obtain ⟨d0, d1, d2⟩ := L.out.cells
              go_wp2_with fail
              refine (specPageBytes_any _ ka kn kc va vn vc ia jn ic p _ lf.out).mono ?_
              intro e w5 hput
              obtain ⟨hb5, ⟨hnn, rfl⟩ | ⟨v5, bs, hss, rfl, hO5⟩⟩ := hput
              · have HPR : Hid (prd zs = none) := by
                  show prd zs = none
                  rw [prd, if_neg]
                  rintro ⟨_, _, h⟩
                  rw [← HCD.out, hnn] at h
                  cases h
                have L5 := hid (L.out.below hb5)
                have r0 := L5.out.rb.cell (j := 0) rfl
                have r1 := L5.out.rb.cell (j := 1) rfl
                have r2 := L5.out.rb.cell (j := 2) rfl
                have f0 := L5.out.rb.free 0
                have f1 := L5.out.rb.free 1
                have f2 := L5.out.rb.free 2
                have HBF := hid L5.out.be
                clear hb5 hnn L lf d0 d1 d2 L5
                go_wp2
                refine bodyPost_ret (results_pg2 (x := .slice none 0 0) (y := .slice none 0 0) (z := .slice none 0 0) rfl _ _ _ rfl rfl (by go_simp) (by go_simp) (by go_simp)) rfl ?_
                exact ⟨((HBF.out.setCell (p := ⟨w.heap.size, 0, none⟩) (Nat.le_refl _) _).setCell (p := ⟨w.heap.size, 1, none⟩) (Nat.le_refl _) _).setCell (p := ⟨w.heap.size, 2, none⟩) (Nat.le_refl _) _, .inl ⟨HPR.out, rfl⟩⟩
              · have hbs := pgBytes_some hss
                obtain ⟨a5, n5, c5, rfl, R5, hn5⟩ := hO5.rdS hbs.1 (by rw [hbs.2]; omega)
                have L5 := hid (L.out.below hb5)
                have RB := hid (HR.out.kept L5.out.be)
                have HSS := hid hss
                clear hb5 hO5 hbs hss L lf d0 d1 d2
                obtain ⟨d0, d1, d2⟩ := L5.out.cells
                have r0 := L5.out.rb.cell (j := 0) rfl
                have r1 := L5.out.rb.cell (j := 1) rfl
                have r2 := L5.out.rb.cell (j := 2) rfl
                have f0 := L5.out.rb.free 0
                have f1 := L5.out.rb.free 1
                have f2 := L5.out.rb.free 2
                go_wp2_with fail
                refine (same_any a5 _ n5 _ c5 _ bs zs _ R5.out RB.out).mono ?_
                by_cases heq : bs = zs
                · have HPR : Hid (prd zs = some p) := by
                    show prd zs = some p
                    rw [prd, if_pos, HCD.out]
                    exact ⟨HZL.out, HZ0.out, by rw [← HCD.out, HSS.out, heq]⟩
                  rw [decide_eq_true heq]
                  rintro e w6 ⟨rfl, rfl⟩
                  have L6 := hid L5.out.pgr
                  have HBF := hid L5.out.be
                  clear L5 R5 RB HSS heq
                  go_wp2
                  refine bodyPost_ret (results_pg2 (x := .slice ka kn kc) (y := .slice va vn vc) (z := .slice ia jn ic) rfl _ _ _ rfl rfl (by go_simp) (by go_simp) (by go_simp)) rfl ?_
                  refine ⟨((HBF.out.setCell (p := ⟨w.heap.size, 0, none⟩) (Nat.le_refl _) _).setCell (p := ⟨w.heap.size, 1, none⟩) (Nat.le_refl _) _).setCell (p := ⟨w.heap.size, 2, none⟩) (Nat.le_refl _) _, .inr ⟨p, _, _, _, _, _, _, _, _, _, HPR.out, rfl, ?_⟩⟩
                  have hon : Only (fun y => y = w.heap.size) w5 (((w5.setCell ⟨w.heap.size, 0, none⟩ (.slice ka kn kc)).setCell ⟨w.heap.size, 1, none⟩ (.slice va vn vc)).setCell ⟨w.heap.size, 2, none⟩ (.slice ia jn ic)) := (only_set (R := fun y => y = w.heap.size) rfl _).trans ((only_set (R := fun y => y = w.heap.size) rfl _).trans (only_set (R := fun y => y = w.heap.size) rfl _))
                  have h7 := L6.out.to hon (fun y hy _ e => by omega)
                  exact ⟨Rw.mono h7.hk (fun y hy _ => by omega), Rw.mono h7.hv (fun y hy _ => by omega), Rw.mono h7.hi (fun y hy _ => by omega)⟩
                · have HPR : Hid (prd zs = none) := by
                    show prd zs = none
                    rw [prd, if_neg]
                    rintro ⟨_, _, h⟩
                    rw [← HCD.out, HSS.out] at h
                    cases h
                    exact heq rfl
                  rw [decide_eq_false heq]
                  rintro e w6 ⟨rfl, rfl⟩
                  have HBF := hid L5.out.be
                  clear L5 R5 RB HSS heq
                  go_wp2
                  refine bodyPost_ret (results_pg2 (x := .slice none 0 0) (y := .slice none 0 0) (z := .slice none 0 0) rfl _ _ _ rfl rfl (by go_simp) (by go_simp) (by go_simp)) rfl ?_
                  exact ⟨((HBF.out.setCell (p := ⟨w.heap.size, 0, none⟩) (Nat.le_refl _) _).setCell (p := ⟨w.heap.size, 1, none⟩) (Nat.le_refl _) _).setCell (p := ⟨w.heap.size, 2, none⟩) (Nat.le_refl _) _, .inl ⟨HPR.out, rfl⟩⟩
      · have HPR := hid (HPRN.out (by rintro (h | h); exact z76 h; exact z66 h))
        have n76 : (zAt zs 0 != 76) = true := by simp [z76]
        have n66 : (zAt zs 0 != 66) = true := by simp [z66]
        have HBF := hid LS.out.be
        generalize zAt zs 0 = q at *
        clear HPRN HCDEF HZC HC0 LS
        go_enter Tryd.func16, Tryd.ntmps16
        go_wp2
        refine bodyPost_ret (results_pg2 (x := .slice none 0 0) (y := .slice none 0 0) (z := .slice none 0 0) rfl _ _ _ rfl rfl (by go_simp) (by go_simp) (by go_simp)) rfl ?_
        exact ⟨HBF.out, .inl ⟨HPR.out, rfl⟩⟩
  · have h512' : ((n : Int) != 512) = true := by simp; omega
    have HPR : Hid (prd zs = none) := by
      show prd zs = none
      rw [prd, if_neg]
      rintro ⟨h, _⟩
      omega
    have HBF := hid LS.out.be
    clear HBY HR LS h hzl
    go_enter Tryd.func16, Tryd.ntmps16
    go_wp2
    refine bodyPost_ret (results_pg2 (x := .slice none 0 0) (y := .slice none 0 0) (z := .slice none 0 0) rfl _ _ _ rfl rfl (by go_simp) (by go_simp) (by go_simp)) rfl ?_
    exact ⟨HBF.out, .inl ⟨HPR.out, rfl⟩⟩
end Go.Proofs.YtpgogpphobafoaaDoor
/-
  What a row's list of errors gives: the variable's cell holds an error.
-/
namespace Go.Proofs.YtpgogpphobafoaaDoor
open Go.RowKit Go.ChangeShapes

theorem laid_err {P : Program} {n nm : String} {d : DataW Unit} {r : List (String × DataW Unit)} {W : World} {g : Nat} {ti : TypeId} {ms : Array (String × TypeId)}
    (h : laidMet P ((n, .iface nm d) :: r) W) (hg : P.globalNamed n = some g) (ht : (P.globals[g]?).map (·.type) = some ti) (hi : P.underlying ti = some (.interface ms)) : Err W g := by
  obtain ⟨ps, ⟨g0, t0, cs0, f0, p0, q0, hg0, ht0, hv0, hd0, _, e0⟩, _, hrows⟩ := h
  obtain rfl := Option.some.inj (hg.symm.trans hg0)
  obtain rfl := Option.some.inj (ht.symm.trans ht0)
  obtain ⟨f1, u, v, hcs, hn, h1⟩ := iface_of_trod hi hd0
  have hc : cs0 = #[.iface u v] := by
    cases cs0
    simp_all
  subst hc
  exact ⟨u, v, by simpa using World.var?_cell hg0 hv0 0⟩
theorem Err.lt {w : World} {g : Nat} (h : Err w g) : g < w.heap.size := by
  obtain ⟨t, x, hc⟩ := h
  exact block_lt hc
end Go.Proofs.YtpgogpphobafoaaDoor
/-
  The program's reader of pages: its parts, and how it gives up.
-/
namespace Go.Proofs.YtpgogpphobafoaaDoor
open Go.RowKit
/-- The call ends in a panic of its own. -/
def Gave (e : Ending) : Prop := ∃ t x, e = .panicked [{ v := .iface t x, recovered := false }]
set_option maxHeartbeats 800000 in
theorem giveUp_any (R : Nat) (w : World) (he : Err w 3) : Calls Tryd.prog 68 #[.pointer (some ⟨R, 0, none⟩)] w fun e w' => Gave e ∧ w = w' := by
  obtain ⟨t, x, hx⟩ := he
  go_enter Tryd.func68, Tryd.ntmps68
  go_wp2
  exact ⟨rfl, ⟨t, x, rfl⟩, rfl⟩
set_option maxHeartbeats 800000 in
theorem goTo_no (R : Nat) (q : Int) (w : World) (he : Err w 3) (hq : q < 0) : Calls Tryd.prog 69 #[.pointer (some ⟨R, 0, none⟩), .int .i64 q] w fun e w' => Gave e ∧ w = w' := by
  have HE := hid he
  clear he
  go_enter Tryd.func69, Tryd.ntmps69
  go_wp2_with fail
  refine (giveUp_any R w HE.out).mono ?_
  rintro e w1 ⟨⟨t, x, rfl⟩, rfl⟩
  go_wp2
  exact ⟨rfl, ⟨t, x, rfl⟩, rfl⟩
set_option maxHeartbeats 800000 in
theorem goTo_yes (R : Nat) (q : Int) (w : World) {u : Value} {y : Int} (hb : Bk w R 70 [u, .int .i64 y]) (hq : 0 ≤ q) : Calls Tryd.prog 69 #[.pointer (some ⟨R, 0, none⟩), .int .i64 q] w fun e w' => e = .returned (.tuple #[]) ∧ w' = w.setCell ⟨R, 1, none⟩ (.int .i64 q) := by
  have c1 := hb.cell (j := 1) rfl
  have f1 := hb.free 1
  have hq' : ¬ q < 0 := by omega
  clear hb
  go_enter Tryd.func69, Tryd.ntmps69
  go_wp2
  go_end0
  exact ⟨rfl, rfl⟩
end Go.Proofs.YtpgogpphobafoaaDoor
/-
  The reader's numbers, texts and counts.
-/
namespace Go.Proofs.YtpgogpphobafoaaDoor
open Go.RowKit
/-- The reader in its box, with the bytes that it reads below it. -/
structure Rs (v : World) (R : Nat) (a : Option Addr) (n c : Nat) (zs : List Int) (q : Int) : Prop where
  bk : Bk v R 70 [.slice a n c, .int .i64 q]
  rd : Rd v a n c zs
  lo : ∀ x, a = some x → 0 < n → x.block < R
  er : Err v 3
  eg : 3 < R
theorem Rs.to {v v' : World} {P : Nat → Prop} {R : Nat} {a : Option Addr} {n c : Nat} {zs : List Int} {q : Int} (h : Rs v R a n c zs q) (ho : Only P v v') (hP : ∀ y, P y → R < y) : Rs v' R a n c zs q := by
  have hlt := h.bk.lt
  have hb : Below (R + 1) v v' := ho.below (by omega) (fun b hb hr => by have := hP b hr; omega)
  exact ⟨h.bk.to ho (fun hr => by have := hP _ hr; omega), h.rd.below (hb.mono (Nat.le_succ R)) h.lo, h.lo, h.er.below hb (by have := h.eg; omega), h.eg⟩
theorem Rs.below {v v' : World} {R : Nat} {a : Option Addr} {n c : Nat} {zs : List Int} {q : Int} (h : Rs v R a n c zs q) (hb : Below v.heap.size v v') : Rs v' R a n c zs q :=
  h.to (P := fun _ => False) (only_of_below hb _) (fun _ h => h.elim)
/-- The reader behind a part that was there. -/
theorem Rs.went {v v' : World} {R : Nat} {a : Option Addr} {n c : Nat} {zs : List Int} {q q' : Int} (h : Rs v R a n c zs q) (ho : Only (fun y => y = R) v v') (hk : Bk v' R 70 [.slice a n c, .int .i64 q']) : Rs v' R a n c zs q' := by
  have hlt := h.bk.lt
  have hb : Below R v v' := ho.below (by omega) (fun b hb hr => by omega)
  exact ⟨hk, h.rd.below hb h.lo, h.lo, h.er.below hb h.eg, h.eg⟩
/-- A part is read, or the reader gives up where there is none. -/
def PtP (R : Nat) (a : Option Addr) (n c : Nat) (u : Value) (q : Int) (w : World) (e : Ending) (w' : World) : Prop :=
  Only (fun y => y = R) w w' ∧ w'.heap.size = w.heap.size ∧ ((q < 0 ∧ Gave e) ∨ (0 ≤ q ∧ e = .returned u ∧ Bk w' R 70 [.slice a n c, .int .i64 q]))
set_option maxHeartbeats 2000000 in
set_option maxRecDepth 20000 in
theorem rtext_any (R : Nat) (a : Option Addr) (n c : Nat) (zs : List Int) (q : Int) (w : World) (h : Rs w R a n c zs q) (hq : q ≤ 9223372036854775807) :
    Calls Tryd.prog 81 #[.pointer (some ⟨R, 0, none⟩)] w fun e w' => PtP R a n c (.string (strOf (gt zs q).1)) (gt zs q).2 w e w' := by
  have H0 := hid h
  have c0 := h.bk.cell (j := 0) rfl
  have c1 := h.bk.cell (j := 1) rfl
  have HC := hid (implGetText_any a n c zs q w.drew (h.rd.kept (below_drew _)) hq)
  clear h
  generalize strOf (gt zs q).1 = s at *
  generalize (gt zs q).2 = q' at *
  go_enter Tryd.func81, Tryd.ntmps81
  go_wp2_with fail
  go_cut [3, 4] (fun x y v => x = .string s ∧ y = .int .i64 q' ∧ v = w.drew)
  case first =>
    go_region_with (go_at_call 86; refine HC.out.mono ?_; rintro e w1 ⟨rfl, rfl⟩)
    all_goals (go_wp2_with fail; go_meet)
    all_goals exact ⟨rfl, rfl, rfl⟩
  case rest =>
    obtain ⟨rfl, rfl, rfl⟩ := hcut
    have H1 := hid (H0.out.below (below_drew w))
    have O1 : Hid (Only (fun y => y = R) w w.drew) := only_of_below (below_drew w) _
    have Z1 : Hid (w.drew.heap.size = w.heap.size) := rfl
    clear HC c0 c1 H0
    generalize w.drew = v at *
    by_cases hn : q' < 0
    · go_wp2_with fail
      refine (goTo_no R q' v H1.out.er hn).mono ?_
      rintro e w1 ⟨⟨t, x, rfl⟩, rfl⟩
      go_wp2
      exact ⟨rfl, O1.out, Z1.out, .inl ⟨hn, t, x, rfl⟩⟩
    · go_wp2_with fail
      refine (goTo_yes R q' v H1.out.bk (by omega)).mono ?_
      rintro e w1 ⟨rfl, hw1⟩
      have O2 : Hid (Only (fun y => y = R) w w1) := by rw [hw1]; exact O1.out.trans (only_set (R := fun y => y = R) rfl _)
      have K2 : Hid (Bk w1 R 70 [.slice a n c, .int .i64 q']) := by rw [hw1]; exact H1.out.bk.set 1 _
      have Z2 : Hid (w1.heap.size = w.heap.size) := by rw [hw1, ← Z1.out]; show _ = _; simp [World.setCell]
      clear hw1
      go_wp2
      go_ret
      exact ⟨O2.out, Z2.out, .inr ⟨by omega, rfl, K2.out⟩⟩
set_option maxHeartbeats 2000000 in
set_option maxRecDepth 20000 in
theorem rnum_any (R : Nat) (a : Option Addr) (n c : Nat) (zs : List Int) (q : Int) (w : World) (h : Rs w R a n c zs q) (hq : q ≤ 9223372036854775807) :
    Calls Tryd.prog 82 #[.pointer (some ⟨R, 0, none⟩)] w fun e w' => PtP R a n c (.int .i64 (gv zs q).1) (gv zs q).2 w e w' := by
  have H0 := hid h
  have c0 := h.bk.cell (j := 0) rfl
  have c1 := h.bk.cell (j := 1) rfl
  have HC := hid (implGetVar_any a n c zs q w.drew (h.rd.kept (below_drew _)) hq)
  clear h
  generalize (gv zs q).1 = s at *
  generalize (gv zs q).2 = q' at *
  go_enter Tryd.func82, Tryd.ntmps82
  go_wp2_with fail
  go_cut [3, 4] (fun x y v => x = .int .i64 s ∧ y = .int .i64 q' ∧ v = w.drew)
  case first =>
    go_region_with (go_at_call 87; refine HC.out.mono ?_; rintro e w1 ⟨rfl, rfl⟩)
    all_goals (go_wp2_with fail; go_meet)
    all_goals exact ⟨rfl, rfl, rfl⟩
  case rest =>
    obtain ⟨rfl, rfl, rfl⟩ := hcut
    have H1 := hid (H0.out.below (below_drew w))
    have O1 : Hid (Only (fun y => y = R) w w.drew) := only_of_below (below_drew w) _
    have Z1 : Hid (w.drew.heap.size = w.heap.size) := rfl
    clear HC c0 c1 H0
    generalize w.drew = v at *
    by_cases hn : q' < 0
    · go_wp2_with fail
      refine (goTo_no R q' v H1.out.er hn).mono ?_
      rintro e w1 ⟨⟨t, x, rfl⟩, rfl⟩
      go_wp2
      exact ⟨rfl, O1.out, Z1.out, .inl ⟨hn, t, x, rfl⟩⟩
    · go_wp2_with fail
      refine (goTo_yes R q' v H1.out.bk (by omega)).mono ?_
      rintro e w1 ⟨rfl, hw1⟩
      have O2 : Hid (Only (fun y => y = R) w w1) := by rw [hw1]; exact O1.out.trans (only_set (R := fun y => y = R) rfl _)
      have K2 : Hid (Bk w1 R 70 [.slice a n c, .int .i64 q']) := by rw [hw1]; exact H1.out.bk.set 1 _
      have Z2 : Hid (w1.heap.size = w.heap.size) := by rw [hw1, ← Z1.out]; show _ = _; simp [World.setCell]
      clear hw1
      go_wp2
      go_ret
      exact ⟨O2.out, Z2.out, .inr ⟨by omega, rfl, K2.out⟩⟩
/-- A count is read, or the reader gives up where there is none or too great a one. -/
def CtP (R : Nat) (a : Option Addr) (n c : Nat) (m : Int) (o : Int × Int) (w : World) (e : Ending) (w' : World) : Prop :=
  Only (fun y => y = R) w w' ∧ w'.heap.size = w.heap.size ∧ (((o.2 < 0 ∨ m < o.1) ∧ Gave e) ∨ (0 ≤ o.2 ∧ o.1 ≤ m ∧ e = .returned (.int .i64 o.1) ∧ Bk w' R 70 [.slice a n c, .int .i64 o.2]))
set_option maxHeartbeats 2000000 in
theorem rcount_any (R : Nat) (a : Option Addr) (n c : Nat) (zs : List Int) (q m : Int) (w : World) (h : Rs w R a n c zs q) (hq : q ≤ 9223372036854775807) :
    Calls Tryd.prog 80 #[.pointer (some ⟨R, 0, none⟩), .int .i64 m] w fun e w' => CtP R a n c m (gv zs q) w e w' := by
  have H0 := hid h
  have HC := hid (rnum_any R a n c zs q w h hq)
  clear h
  generalize gv zs q = o at *
  obtain ⟨s, q'⟩ := o
  dsimp only at HC
  go_enter Tryd.func80, Tryd.ntmps80
  go_wp2_with fail
  refine HC.out.mono ?_
  rintro e w1 ⟨ho, hz, hcase⟩
  have O1 := hid ho
  have Z1 := hid hz
  clear ho hz HC
  rcases hcase with ⟨hn, t, x, rfl⟩ | ⟨hn, rfl, hk⟩
  · go_wp2
    exact ⟨rfl, O1.out, Z1.out, .inl ⟨.inl hn, t, x, rfl⟩⟩
  · have K1 := hid hk
    have H1 := hid (H0.out.went O1.out hk)
    clear hk
    have HN := hid hn
    clear hn
    by_cases hm : m < s
    · go_wp2_with fail
      refine (giveUp_any R w1 H1.out.er).mono ?_
      rintro e w2 ⟨⟨t, x, rfl⟩, rfl⟩
      go_wp2
      exact ⟨rfl, O1.out, Z1.out, .inl ⟨.inr hm, t, x, rfl⟩⟩
    · go_wp2
      go_ret
      exact ⟨O1.out, Z1.out, .inr ⟨HN.out, by show s ≤ m; omega, rfl, K1.out⟩⟩
end Go.Proofs.YtpgogpphobafoaaDoor
/-
  Plain mathematics: a number that was put is got again, and so is a text.
-/
namespace Go.Proofs.YtpgogpphobafoaaDoor

theorem encF_down (f : Nat) : ∀ n : Int, n < bnd f → encF (f + 1) n = encF f n := by
  induction f with
  | zero => intro n h; rw [encF_small _ n (by simpa [bnd] using h), encF_small _ n (by simpa [bnd] using h)]
  | succ f ih =>
    intro n h
    by_cases hn : 128 ≤ n
    · rw [encF_big _ n hn, encF_big _ n hn, ih (n / 128) (bnd_down f n h)]
    · rw [encF_small _ n (by omega), encF_small _ n (by omega)]
theorem at_here (pre : List Int) (z : Int) (r : List Int) : (pre ++ z :: r)[pre.length]?.getD 0 = z := by simp
theorem not_bad {r q u : Int} (hs : r + q * u ≤ 1099511627775) (hz : q = 0 → ¬ 1 < u) : ¬ (1099511627775 < r + q * u ∨ (q = 0 ∧ 1 < u)) := by
  rintro (h | ⟨h, h'⟩)
  · omega
  · exact hz h h'
theorem gvGo_enc (f' : Nat) : ∀ (f : Nat) (pre rest : List Int) (q r u : Int), 0 ≤ q → q < bnd f' → f' < f → r + q * u ≤ 1099511627775 → (q = 0 → ¬ 1 < u) →
    gvGo f (pre ++ encF f' q ++ rest) pre.length r u = (r + q * u, ((pre.length + (encF f' q).length : Nat) : Int)) := by
  induction f' with
  | zero =>
    intro f pre rest q r u h0 hq hf hs hz
    obtain ⟨g, rfl⟩ : ∃ g, f = g + 1 := ⟨f - 1, by omega⟩
    have e : pre ++ encF 0 q ++ rest = pre ++ q :: rest := by simp [encF]
    have hq' : q < 128 := hq
    rw [e, gvGo_good g _ pre.length r u (by simp) (by rw [at_here]; exact hq') (by rw [at_here]; exact not_bad hs hz), at_here]
    simp [encF]
  | succ f' ih =>
    intro f pre rest q r u h0 hq hf hs hz
    obtain ⟨g, rfl⟩ : ∃ g, f = g + 1 := ⟨f - 1, by omega⟩
    by_cases hb : 128 ≤ q
    · rw [encF_big f' q hb]
      have e : pre ++ (128 + q % 128) :: encF f' (q / 128) ++ rest = pre ++ (128 + q % 128) :: (encF f' (q / 128) ++ rest) := by simp
      have e2 : pre ++ (128 + q % 128) :: encF f' (q / 128) ++ rest = (pre ++ [128 + q % 128]) ++ encF f' (q / 128) ++ rest := by simp
      have hm : q * u = q % 128 * u + q / 128 * (u * 128) := by
        have : q = q % 128 + 128 * (q / 128) := by omega
        rw [Int.mul_comm u 128, ← Int.mul_assoc, ← Int.add_mul]
        congr 1
        omega
      have hk : pre.length < (pre ++ (128 + q % 128) :: (encF f' (q / 128) ++ rest)).length := by simp
      rw [e, gvGo_more g _ pre.length r u hk (by rw [at_here]; omega), at_here, ← e, e2]
      have hl : pre.length + 1 = (pre ++ [128 + q % 128]).length := by simp
      rw [hl, ih g (pre ++ [128 + q % 128]) rest (q / 128) (r + (128 + q % 128 - 128) * u) (u * 128) (by omega) (bnd_down f' q hq) (by omega) (by
        rw [show 128 + q % 128 - 128 = q % 128 from by omega]; omega) (by intro h; omega)]
      rw [show 128 + q % 128 - 128 = q % 128 from by omega]
      simp only [Prod.mk.injEq]
      constructor
      · omega
      · simp; omega
    · have e : pre ++ encF (f' + 1) q ++ rest = pre ++ q :: rest := by rw [encF_small _ q (by omega)]; simp
      rw [e, gvGo_good g _ pre.length r u (by simp) (by rw [at_here]; omega) (by rw [at_here]; exact not_bad hs hz), at_here, encF_small _ q (by omega)]
      simp
/-- What is put is got. -/
theorem gv_enc (pre rest : List Int) (n : Int) (h0 : 0 ≤ n) (h1 : n ≤ 1099511627775) : gv (pre ++ enc n ++ rest) (pre.length : Int) = (n, ((pre.length + (enc n).length : Nat) : Int)) := by
  have e : enc n = encF 5 n := encF_down 5 n (by simp [bnd]; omega)
  rw [gv_nat, e, gvGo_enc 5 6 pre rest n 0 1 h0 (by simp [bnd]; omega) (by omega) (by omega) (by omega)]
  simp
theorem gt_enc (pre zs : List Int) (h : zs.length ≤ 1048576) : gt (pre ++ enc (zs.length : Int) ++ zs) (pre.length : Int) = (zs, ((pre ++ enc (zs.length : Int) ++ zs).length : Int)) := by
  unfold gt
  rw [gv_enc pre zs (zs.length : Int) (by omega) (by omega)]
  simp only
  rw [if_neg (by simp only [List.length_append]; omega)]
  simp only [Int.toNat_natCast, Prod.mk.injEq]
  refine ⟨?_, ?_⟩
  · have : pre.length + (enc (zs.length : Int)).length = (pre ++ enc (zs.length : Int)).length := by simp
    rw [this, List.drop_left, List.take_length]
  · simp only [List.length_append]; omega
end Go.Proofs.YtpgogpphobafoaaDoor
/-
  Plain mathematics: a page's bytes are read as the page.
-/
namespace Go.Proofs.YtpgogpphobafoaaDoor
open Go.RowKit
theorem gt_rest (pre zs rest : List Int) (h : zs.length ≤ 1048576) : gt (pre ++ enc (zs.length : Int) ++ zs ++ rest) (pre.length : Int) = (zs, ((pre ++ enc (zs.length : Int) ++ zs).length : Int)) := by
  have hg := gv_enc pre (zs ++ rest) (zs.length : Int) (by omega) (by omega)
  have e : pre ++ enc (zs.length : Int) ++ zs ++ rest = pre ++ enc (zs.length : Int) ++ (zs ++ rest) := by simp
  have hlen : (pre ++ enc (zs.length : Int) ++ (zs ++ rest)).length = pre.length + (enc (zs.length : Int)).length + (zs.length + rest.length) := by simp only [List.length_append]
  rw [e, gt, hg]
  simp only
  rw [if_neg (by rw [hlen]; omega)]
  have hd : ((pre ++ enc (zs.length : Int) ++ (zs ++ rest)).drop ((pre.length + (enc (zs.length : Int)).length : Nat) : Int).toNat) = zs ++ rest := by
    rw [Int.toNat_natCast, show pre.length + (enc (zs.length : Int)).length = (pre ++ enc (zs.length : Int)).length by simp, List.drop_left]
  rw [hd, Int.toNat_natCast, List.take_left]
  simp only [List.length_append, Prod.mk.injEq, true_and]
  omega
theorem strOf_bytesOf (s : ByteArray) : strOf (bytesOf s) = s := by
  apply ByteArray.ext
  simp only [strOf, bytesOf, List.map_map]
  have : (List.map ((fun z : Int => UInt8.ofNat z.toNat) ∘ fun b : UInt8 => ((b.toNat : Nat) : Int)) s.data.toList) = s.data.toList := by
    conv => rhs; rw [← List.map_id s.data.toList]
    refine List.map_congr_left fun b _ => ?_
    simp
  rw [this]
theorem body_split (p : PG) (j : Nat) : ∀ m, ∃ R, pgBody p (j + m) = pgBody p j ++ R
  | 0 => ⟨[], by simp⟩
  | m + 1 => by
    obtain ⟨R, h⟩ := body_split p j m
    exact ⟨R ++ pgPart p (j + m), by rw [← Nat.add_assoc, pgBody, h, List.append_assoc]⟩
theorem sAt_take {l : List ByteArray} {j : Nat} (h : j < l.length) : l.take j ++ [sAt l j] = l.take (j + 1) := by
  rw [List.take_succ_eq_append_getElem h]; simp [sAt, h]
theorem iAt_take {l : List Int} {j : Nat} (h : j < l.length) : l.take j ++ [iAt l j] = l.take (j + 1) := by
  rw [List.take_succ_eq_append_getElem h]; simp [iAt, h]
theorem PG.ext' {p : PG} {a b : List ByteArray} {c : List Int} (h1 : a = p.keys) (h2 : b = p.vals) (h3 : c = p.kids) : (⟨a, b, c⟩ : PG) = p := by
  cases p; simp at h1 h2 h3; simp [h1, h2, h3]
theorem cd_leaf {p : PG} {zs rest : List Int} (hF : PgF p) (h0 : p.kids.length = 0) (hz : zs = pgRaw p ++ rest) : ∀ m j, j + m = p.keys.length → cdGo zs false (p.keys.length : Int) (6 - j) j ⟨p.keys.take j, p.vals.take j, []⟩ ((pgBody p j).length : Int) = p
  | 0, j, hj => by
    obtain ⟨hv, _⟩ := hF.lf h0
    rw [cdGo_stop _ _ _ _ _ _ _ (by omega)]
    exact PG.ext' (List.take_of_length_le (by omega)) (List.take_of_length_le (by omega)) (List.eq_nil_of_length_eq_zero h0).symm
  | m + 1, j, hj => by
    obtain ⟨hv, hvs⟩ := hF.lf h0
    have hn := hF.nk
    have hk := hF.ks j (by omega)
    have hvj := hvs j (by omega)
    obtain ⟨R, hR⟩ := body_split p (j + 1) m
    have e1 : zs = pgBody p j ++ (enc ((bytesOf (sAt p.keys j)).length : Int) ++ bytesOf (sAt p.keys j) ++ (enc ((bytesOf (sAt p.vals j)).length : Int) ++ bytesOf (sAt p.vals j))) ++ (R ++ rest) := by
      rw [hz, pgRaw, ← hj, show j + (m + 1) = j + 1 + m by omega, hR, pgBody, pgPart, if_pos h0, bytesOf_len, bytesOf_len]
      simp only [List.append_assoc]
    have g1 : gt zs ((pgBody p j).length : Int) = (bytesOf (sAt p.keys j), ((pgBody p j ++ enc ((bytesOf (sAt p.keys j)).length : Int) ++ bytesOf (sAt p.keys j)).length : Int)) := by
      have := gt_rest (pgBody p j) (bytesOf (sAt p.keys j)) (enc ((bytesOf (sAt p.vals j)).length : Int) ++ bytesOf (sAt p.vals j) ++ (R ++ rest)) (by rw [bytesOf_len]; omega)
      rw [← this, e1]
      simp only [List.append_assoc]
    have g2 : gt zs ((pgBody p j ++ enc ((bytesOf (sAt p.keys j)).length : Int) ++ bytesOf (sAt p.keys j)).length : Int) = (bytesOf (sAt p.vals j), ((pgBody p (j + 1)).length : Int)) := by
      have := gt_rest (pgBody p j ++ enc ((bytesOf (sAt p.keys j)).length : Int) ++ bytesOf (sAt p.keys j)) (bytesOf (sAt p.vals j)) (R ++ rest) (by rw [bytesOf_len]; omega)
      have e2 : pgBody p (j + 1) = pgBody p j ++ enc ((bytesOf (sAt p.keys j)).length : Int) ++ bytesOf (sAt p.keys j) ++ enc ((bytesOf (sAt p.vals j)).length : Int) ++ bytesOf (sAt p.vals j) := by
        rw [pgBody, pgPart, if_pos h0, bytesOf_len, bytesOf_len]
        simp only [List.append_assoc]
      rw [e2, ← this, e1]
      simp only [List.append_assoc]
    have st : cdStep zs false ⟨p.keys.take j, p.vals.take j, []⟩ ((pgBody p j).length : Int) = (⟨p.keys.take (j + 1), p.vals.take (j + 1), []⟩, ((pgBody p (j + 1)).length : Int)) := by
      rw [cdStep, if_neg (by simp), g1]
      simp only
      rw [g2, strOf_bytesOf, strOf_bytesOf, sAt_take (by omega), sAt_take (by omega)]
    rw [show 6 - j = (6 - (j + 1)) + 1 by omega, cdGo_on _ _ _ _ _ _ _ ⟨by omega, by omega, by omega⟩, st]
    exact cd_leaf hF h0 hz m (j + 1) (by omega)
theorem cd_branch {p : PG} {zs rest : List Int} (hF : PgF p) (h0 : ¬ p.kids.length = 0) (hv0 : p.vals = []) (hz : zs = pgRaw p ++ rest) : ∀ m j, j + m = p.keys.length → cdGo zs true (p.keys.length : Int) (6 - j) j ⟨p.keys.take j, [], p.kids.take (j + 1)⟩ ((pgBody p j).length : Int) = p
  | 0, j, hj => by
    obtain ⟨hv, _⟩ := hF.br h0
    rw [cdGo_stop _ _ _ _ _ _ _ (by omega)]
    exact PG.ext' (List.take_of_length_le (by omega)) hv0.symm (List.take_of_length_le (by omega))
  | m + 1, j, hj => by
    obtain ⟨hv, hvs⟩ := hF.br h0
    have hn := hF.nk
    have hk := hF.ks j (by omega)
    have hvj := hvs (j + 1) (by omega)
    obtain ⟨R, hR⟩ := body_split p (j + 1) m
    have e1 : zs = pgBody p j ++ (enc ((bytesOf (sAt p.keys j)).length : Int) ++ bytesOf (sAt p.keys j) ++ enc (iAt p.kids (j + 1))) ++ (R ++ rest) := by
      rw [hz, pgRaw, ← hj, show j + (m + 1) = j + 1 + m by omega, hR, pgBody, pgPart, if_neg h0, bytesOf_len]
      simp only [List.append_assoc]
    have g1 : gt zs ((pgBody p j).length : Int) = (bytesOf (sAt p.keys j), ((pgBody p j ++ enc ((bytesOf (sAt p.keys j)).length : Int) ++ bytesOf (sAt p.keys j)).length : Int)) := by
      have := gt_rest (pgBody p j) (bytesOf (sAt p.keys j)) (enc (iAt p.kids (j + 1)) ++ (R ++ rest)) (by rw [bytesOf_len]; omega)
      rw [← this, e1]
      simp only [List.append_assoc]
    have g2 : gv zs ((pgBody p j ++ enc ((bytesOf (sAt p.keys j)).length : Int) ++ bytesOf (sAt p.keys j)).length : Int) = (iAt p.kids (j + 1), ((pgBody p (j + 1)).length : Int)) := by
      have := gv_enc (pgBody p j ++ enc ((bytesOf (sAt p.keys j)).length : Int) ++ bytesOf (sAt p.keys j)) (R ++ rest) (iAt p.kids (j + 1)) (by omega) (by omega)
      have e2 : pgBody p (j + 1) = pgBody p j ++ enc ((bytesOf (sAt p.keys j)).length : Int) ++ bytesOf (sAt p.keys j) ++ enc (iAt p.kids (j + 1)) := by
        rw [pgBody, pgPart, if_neg h0, bytesOf_len]
        simp only [List.append_assoc]
      have e3 : ((pgBody p j ++ enc ((bytesOf (sAt p.keys j)).length : Int) ++ bytesOf (sAt p.keys j)).length + (enc (iAt p.kids (j + 1))).length : Nat) = (pgBody p (j + 1)).length := by rw [e2]; exact List.length_append.symm
      rw [e3] at this
      rw [← this, e1]
      simp only [List.append_assoc]
    have st : cdStep zs true ⟨p.keys.take j, [], p.kids.take (j + 1)⟩ ((pgBody p j).length : Int) = (⟨p.keys.take (j + 1), [], p.kids.take (j + 1 + 1)⟩, ((pgBody p (j + 1)).length : Int)) := by
      rw [cdStep, if_pos rfl, g1]
      simp only
      rw [g2, strOf_bytesOf, sAt_take (by omega), iAt_take (by omega)]
    rw [show 6 - j = (6 - (j + 1)) + 1 by omega, cdGo_on _ _ _ _ _ _ _ ⟨by omega, by omega, by omega⟩, st]
    exact cd_branch hF h0 hv0 hz m (j + 1) (by omega)
/-- The bytes of a right page are read as that page. -/
theorem cd_full {p : PG} (hok : pgOk p = true) : cd (pgFull p) = p ∧ (zAt (pgFull p) 0 = 76 ∨ zAt (pgFull p) 0 = 66) := by
  have hF := pgOk_facts hok
  have hn := hF.nk
  obtain ⟨R, hR⟩ := body_split p 0 p.keys.length
  rw [Nat.zero_add] at hR
  have hz : pgFull p = pgRaw p ++ List.replicate (512 - (pgRaw p).length) 0 := rfl
  have hh : pgFull p = pgHead p ++ (R ++ List.replicate (512 - (pgRaw p).length) 0) := by
    have hr : pgRaw p = pgHead p ++ R := hR
    rw [hz]
    generalize List.replicate (512 - (pgRaw p).length) 0 = Z
    rw [hr, List.append_assoc]
  generalize R ++ List.replicate (512 - (pgRaw p).length) 0 = R2 at hh
  by_cases h0 : p.kids.length = 0
  · have hhd : pgHead p = [76] ++ enc (p.keys.length : Int) := by rw [pgHead, if_pos h0, if_pos h0]; simp
    have hz0 : zAt (pgFull p) 0 = 76 := by rw [hh, hhd]; rfl
    have hgv : gv (pgFull p) 1 = ((p.keys.length : Int), ((pgHead p).length : Int)) := by
      have := gv_enc [76] R2 (p.keys.length : Int) (by omega) (by omega)
      rw [hh, hhd]
      simpa [Int.add_comm] using this
    refine ⟨?_, .inl hz0⟩
    rw [cd, if_neg (by rw [hz0]; decide), hgv]
    have := cd_leaf hF h0 hz p.keys.length 0 (by omega)
    simpa [pgBody] using this
  · have hbr := hF.br h0
    have hk0 := hbr.2 0 (by omega)
    have hhd : pgHead p = [66] ++ enc (p.keys.length : Int) ++ enc (iAt p.kids 0) := by rw [pgHead, if_neg h0, if_neg h0]
    have hz0 : zAt (pgFull p) 0 = 66 := by rw [hh, hhd]; rfl
    have hgv : gv (pgFull p) 1 = ((p.keys.length : Int), (([66] ++ enc (p.keys.length : Int)).length : Int)) := by
      have := gv_enc [66] (enc (iAt p.kids 0) ++ R2) (p.keys.length : Int) (by omega) (by omega)
      rw [hh, hhd]
      simpa [Int.add_comm] using this
    have hgv2 : gv (pgFull p) (([66] ++ enc (p.keys.length : Int)).length : Int) = (iAt p.kids 0, ((pgHead p).length : Int)) := by
      have := gv_enc ([66] ++ enc (p.keys.length : Int)) R2 (iAt p.kids 0) (by omega) (by omega)
      rw [hh, hhd, this]
      simp
      omega
    have hv0 : p.vals = [] := by
      have h1 := hok
      simp only [pgOk, Bool.and_eq_true] at h1
      have h2 := h1.2
      rw [if_neg h0] at h2
      simp only [pgBranch, Bool.and_eq_true, decide_eq_true_eq] at h2
      exact List.eq_nil_of_length_eq_zero h2.2.2
    refine ⟨?_, .inr hz0⟩
    rw [cd, if_pos hz0, hgv]
    simp only
    rw [if_pos (by omega), hgv2]
    simp only
    have := cd_branch hF h0 hv0 hz p.keys.length 0 (by omega)
    have e : p.kids.take (0 + 1) = [iAt p.kids 0] := by
      rw [← iAt_take (by omega)]; rfl
    rw [e] at this
    simpa [pgBody] using this
theorem pgFull_len {p : PG} (hok : pgOk p = true) : (pgFull p).length = 512 := (pgBytes_some (p := p) (by rw [pgBytes, if_pos hok])).2
/-- Just the bytes of right pages are read. -/
theorem prd_iff (zs : List Int) (p : PG) : prd zs = some p ↔ pgBytes p = some zs := by
  constructor
  · intro h
    unfold prd at h
    split at h
    · rename_i hc
      cases h
      exact hc.2.2
    · cases h
  · intro h
    have h2 := h
    unfold pgBytes at h2
    split at h2
    · rename_i hok
      cases h2
      obtain ⟨h3, h4⟩ := cd_full hok
      rw [prd, if_pos ⟨pgFull_len hok, h4, by rw [h3]; exact h⟩, h3]
    · cases h2
end Go.Proofs.YtpgogpphobafoaaDoor
/-
  Plain mathematics: where the parts of a page lie in its bytes.
-/
namespace Go.Proofs.YtpgogpphobafoaaDoor
open Go.RowKit
theorem pg_of {p : PG} {zs : List Int} (h : pgBytes p = some zs) : pgOk p = true ∧ zs = pgFull p := by
  unfold pgBytes at h
  split at h
  · rename_i hok
    exact ⟨hok, (Option.some.inj h).symm⟩
  · cases h
theorem pg_head {p : PG} {zs : List Int} (h : pgBytes p = some zs) : ∃ R2, zs = pgHead p ++ R2 := by
  obtain ⟨hok, hz⟩ := pg_of h
  obtain ⟨R, hR⟩ := body_split p 0 p.keys.length
  rw [Nat.zero_add] at hR
  have hr : pgRaw p = pgHead p ++ R := hR
  refine ⟨R ++ List.replicate (512 - (pgRaw p).length) 0, ?_⟩
  rw [hz, pgFull]
  generalize List.replicate (512 - (pgRaw p).length) 0 = Z
  rw [hr, List.append_assoc]
theorem leaf_head {p : PG} {zs : List Int} (h : pgBytes p = some zs) (h0 : p.kids.length = 0) : zAt zs 0 = 76 ∧ gv zs 1 = ((p.keys.length : Int), ((pgBody p 0).length : Int)) := by
  obtain ⟨R2, hh⟩ := pg_head h
  have hn := (pgOk_facts (pg_of h).1).nk
  have hhd : pgHead p = [76] ++ enc (p.keys.length : Int) := by rw [pgHead, if_pos h0, if_pos h0]; simp
  refine ⟨by rw [hh, hhd]; rfl, ?_⟩
  have := gv_enc [76] R2 (p.keys.length : Int) (by omega) (by omega)
  rw [pgBody, hh, hhd]
  simpa [Int.add_comm] using this
theorem branch_head {p : PG} {zs : List Int} (h : pgBytes p = some zs) (h0 : ¬ p.kids.length = 0) : zAt zs 0 = 66 ∧ p.keys.length ≤ 3 ∧ p.vals = [] ∧ ∃ q : Int, 0 ≤ q ∧ gv zs 1 = ((p.keys.length : Int), q) ∧ gv zs q = (iAt p.kids 0, ((pgBody p 0).length : Int)) := by
  obtain ⟨R2, hh⟩ := pg_head h
  have hok := (pg_of h).1
  have hF := pgOk_facts hok
  have hn := hF.nk
  have hbr := hF.br h0
  have hk0 := hbr.2 0 (by omega)
  have h1 := hok
  simp only [pgOk, Bool.and_eq_true] at h1
  have h2 := h1.2
  rw [if_neg h0] at h2
  simp only [pgBranch, Bool.and_eq_true, decide_eq_true_eq] at h2
  have hv0 : p.vals = [] := List.eq_nil_of_length_eq_zero h2.2.2
  have hhd : pgHead p = [66] ++ enc (p.keys.length : Int) ++ enc (iAt p.kids 0) := by rw [pgHead, if_neg h0, if_neg h0]
  refine ⟨by rw [hh, hhd]; rfl, by omega, hv0, (([66] ++ enc (p.keys.length : Int)).length : Int), by omega, ?_, ?_⟩
  · have := gv_enc [66] (enc (iAt p.kids 0) ++ R2) (p.keys.length : Int) (by omega) (by omega)
    rw [hh, hhd]
    simpa [Int.add_comm] using this
  · have := gv_enc ([66] ++ enc (p.keys.length : Int)) R2 (iAt p.kids 0) (by omega) (by omega)
    rw [pgBody, hh, hhd, this]
    simp
    omega
theorem leaf_step {p : PG} {zs : List Int} (h : pgBytes p = some zs) (h0 : p.kids.length = 0) {j : Nat} (hj : j < p.keys.length) :
    ∃ q : Int, 0 ≤ q ∧ gt zs ((pgBody p j).length : Int) = (bytesOf (sAt p.keys j), q) ∧ gt zs q = (bytesOf (sAt p.vals j), ((pgBody p (j + 1)).length : Int)) := by
  obtain ⟨hok, hz⟩ := pg_of h
  have hF := pgOk_facts hok
  obtain ⟨hv, hvs⟩ := hF.lf h0
  have hk := hF.ks j hj
  have hvj := hvs j (by omega)
  obtain ⟨R, hR⟩ := body_split p (j + 1) (p.keys.length - (j + 1))
  rw [show j + 1 + (p.keys.length - (j + 1)) = p.keys.length by omega] at hR
  have hr : pgRaw p = pgBody p (j + 1) ++ R := hR
  obtain ⟨rest, hrest⟩ : ∃ rest, zs = pgRaw p ++ rest := ⟨_, hz⟩
  have e1 : zs = pgBody p j ++ (enc ((bytesOf (sAt p.keys j)).length : Int) ++ bytesOf (sAt p.keys j) ++ (enc ((bytesOf (sAt p.vals j)).length : Int) ++ bytesOf (sAt p.vals j))) ++ (R ++ rest) := by
    rw [hrest, hr, pgBody, pgPart, if_pos h0, bytesOf_len, bytesOf_len]
    simp only [List.append_assoc]
  refine ⟨((pgBody p j ++ enc ((bytesOf (sAt p.keys j)).length : Int) ++ bytesOf (sAt p.keys j)).length : Int), by omega, ?_, ?_⟩
  · have := gt_rest (pgBody p j) (bytesOf (sAt p.keys j)) (enc ((bytesOf (sAt p.vals j)).length : Int) ++ bytesOf (sAt p.vals j) ++ (R ++ rest)) (by rw [bytesOf_len]; omega)
    rw [← this, e1]
    simp only [List.append_assoc]
  · have := gt_rest (pgBody p j ++ enc ((bytesOf (sAt p.keys j)).length : Int) ++ bytesOf (sAt p.keys j)) (bytesOf (sAt p.vals j)) (R ++ rest) (by rw [bytesOf_len]; omega)
    have e2 : pgBody p (j + 1) = pgBody p j ++ enc ((bytesOf (sAt p.keys j)).length : Int) ++ bytesOf (sAt p.keys j) ++ enc ((bytesOf (sAt p.vals j)).length : Int) ++ bytesOf (sAt p.vals j) := by
      rw [pgBody, pgPart, if_pos h0, bytesOf_len, bytesOf_len]
      simp only [List.append_assoc]
    rw [e2, ← this, e1]
    simp only [List.append_assoc]
theorem branch_step {p : PG} {zs : List Int} (h : pgBytes p = some zs) (h0 : ¬ p.kids.length = 0) {j : Nat} (hj : j < p.keys.length) :
    ∃ q : Int, 0 ≤ q ∧ gt zs ((pgBody p j).length : Int) = (bytesOf (sAt p.keys j), q) ∧ gv zs q = (iAt p.kids (j + 1), ((pgBody p (j + 1)).length : Int)) := by
  obtain ⟨hok, hz⟩ := pg_of h
  have hF := pgOk_facts hok
  obtain ⟨hv, hvs⟩ := hF.br h0
  have hk := hF.ks j hj
  have hvj := hvs (j + 1) (by omega)
  obtain ⟨R, hR⟩ := body_split p (j + 1) (p.keys.length - (j + 1))
  rw [show j + 1 + (p.keys.length - (j + 1)) = p.keys.length by omega] at hR
  have hr : pgRaw p = pgBody p (j + 1) ++ R := hR
  obtain ⟨rest, hrest⟩ : ∃ rest, zs = pgRaw p ++ rest := ⟨_, hz⟩
  have e1 : zs = pgBody p j ++ (enc ((bytesOf (sAt p.keys j)).length : Int) ++ bytesOf (sAt p.keys j) ++ enc (iAt p.kids (j + 1))) ++ (R ++ rest) := by
    rw [hrest, hr, pgBody, pgPart, if_neg h0, bytesOf_len]
    simp only [List.append_assoc]
  refine ⟨((pgBody p j ++ enc ((bytesOf (sAt p.keys j)).length : Int) ++ bytesOf (sAt p.keys j)).length : Int), by omega, ?_, ?_⟩
  · have := gt_rest (pgBody p j) (bytesOf (sAt p.keys j)) (enc (iAt p.kids (j + 1)) ++ (R ++ rest)) (by rw [bytesOf_len]; omega)
    rw [← this, e1]
    simp only [List.append_assoc]
  · have := gv_enc (pgBody p j ++ enc ((bytesOf (sAt p.keys j)).length : Int) ++ bytesOf (sAt p.keys j)) (R ++ rest) (iAt p.kids (j + 1)) (by omega) (by omega)
    have e2 : pgBody p (j + 1) = pgBody p j ++ enc ((bytesOf (sAt p.keys j)).length : Int) ++ bytesOf (sAt p.keys j) ++ enc (iAt p.kids (j + 1)) := by
      rw [pgBody, pgPart, if_neg h0, bytesOf_len]
      simp only [List.append_assoc]
    have e3 : ((pgBody p j ++ enc ((bytesOf (sAt p.keys j)).length : Int) ++ bytesOf (sAt p.keys j)).length + (enc (iAt p.kids (j + 1))).length : Nat) = (pgBody p (j + 1)).length := by rw [e2]; exact List.length_append.symm
    rw [e3] at this
    rw [← this, e1]
    simp only [List.append_assoc]
end Go.Proofs.YtpgogpphobafoaaDoor
/-
  append of one string and of one number as a step of a region that draws.
-/
namespace Go.Proofs.YtpgogpphobafoaaDoor
open Go.RowKit
theorem stepS1 {w : World} {ops : Array Oper} {o : Oper} {a : Act} {K : Act → World → Prop} {Q : Exit → Act → World → Prop} {E : Prop} (hgd : o.guard = none) (s x : Operand)
    (ho : o.op = .call { callee := .builtin .append, args := #[s, x], argTypes := #[22, 22] }) (v : Value) (n : Nat) (xs : List Value) (hs : a.eval s = v) (hown : w.ownsRow 0 9 1 v n xs)
    (g : Nat) (z : ByteArray) (hx : a.eval x = .slice (some ⟨g, 0, none⟩) 1 1) (hB : w.cell? ⟨g, 0, none⟩ = some (.string z)) (hb : n ≤ 1048576) (b0 o0 : Nat) (x0 : Value) (hc0 : w.cell? ⟨b0, o0, none⟩ = some x0) (hf0 : w.frozen? ⟨b0, o0, none⟩ = false) (hne : v.ownBlock ≠ some b0)
    (h : ∀ a' n' c' w', w'.ownsRow 0 9 1 (.slice a' n' c') (n + 1) (xs ++ [.string z]) → w.grownBy w' v.ownBlock → ((Value.slice a' n' c').ownBlock = v.ownBlock ∨ (Value.slice a' n' c').ownBlock = some w.heap.size) → w'.cell? ⟨b0, o0, none⟩ = some x0 → w'.frozen? ⟨b0, o0, none⟩ = false → K (a.put o.dst (.slice a' n' c')) w') :
    if Region.wanted o (yielded ops a.tmps) = true then Oper.wp Tryd.prog o a w K Q else E := by
  have hw : Region.wanted o (yielded ops a.tmps) = true := by simp [Region.wanted, hgd]
  rw [if_pos hw]
  obtain ⟨i, hi, hz, hsz, hby⟩ := info_of infoStr'
  have hsrc : Rw w (fun _ => True) (.slice (some ⟨g, 0, none⟩) 1 1) 1 [.string z] := by
    refine ⟨_, 1, rfl, Nat.le_refl _, by omega, fun h => by omega, fun h => (by cases h), fun _ => ⟨g, 0, rfl, block_lt hB, trivial, fun j u hu => ?_⟩⟩
    cases j with
    | zero => simp at hu; subst hu; simpa using hB
    | succ j => simp at hu
  obtain ⟨v', w', hr, h2, h3, h5⟩ := run_append_row_at (P := Tryd.prog) (w := w) 0 22 o.type 9 i _ 1 16 Tryd.underlying22 hi hz hsz hby rfl (by decide) v n xs hown (fun _ => True) _ 1 [.string z] hsrc rfl (by intro u hu; simp at hu; subst hu; rfl) (by unfold maxLen; omega) (by omega) (Nat.zero_le _)
  obtain ⟨a', c', rfl⟩ := own_shape h2
  have hbl := h3.block b0 (block_lt hc0) (fun e => hne e.symm)
  unfold Oper.wp execOp
  simp only [ho, resolve, invoke, builtin, Sem.run_bind, Sem.run_pure, Result.andThen_ok, List.map_toArray, List.map_cons, List.map_nil, hs, hx, hr]
  exact h a' _ c' w' h2 h3 h5 ((World.cell?_of_block (w := w) (a := ⟨b0, o0, none⟩) hbl).trans hc0) ((World.frozen?_of_block (w := w) (a := ⟨b0, o0, none⟩) hbl).trans hf0)
theorem stepI1 {w : World} {ops : Array Oper} {o : Oper} {a : Act} {K : Act → World → Prop} {Q : Exit → Act → World → Prop} {E : Prop} (hgd : o.guard = none) (s x : Operand)
    (ho : o.op = .call { callee := .builtin .append, args := #[s, x], argTypes := #[23, 23] }) (v : Value) (n : Nat) (xs : List Value) (hs : a.eval s = v) (hown : w.ownsRow 0 3 1 v n xs)
    (g : Nat) (z : Int) (hx : a.eval x = .slice (some ⟨g, 0, none⟩) 1 1) (hB : w.cell? ⟨g, 0, none⟩ = some (.int .i64 z)) (hb : n ≤ 1048576) (b0 o0 : Nat) (x0 : Value) (hc0 : w.cell? ⟨b0, o0, none⟩ = some x0) (hf0 : w.frozen? ⟨b0, o0, none⟩ = false) (hne : v.ownBlock ≠ some b0)
    (h : ∀ a' n' c' w', w'.ownsRow 0 3 1 (.slice a' n' c') (n + 1) (xs ++ [.int .i64 z]) → w.grownBy w' v.ownBlock → ((Value.slice a' n' c').ownBlock = v.ownBlock ∨ (Value.slice a' n' c').ownBlock = some w.heap.size) → w'.cell? ⟨b0, o0, none⟩ = some x0 → w'.frozen? ⟨b0, o0, none⟩ = false → K (a.put o.dst (.slice a' n' c')) w') :
    if Region.wanted o (yielded ops a.tmps) = true then Oper.wp Tryd.prog o a w K Q else E := by
  have hw : Region.wanted o (yielded ops a.tmps) = true := by simp [Region.wanted, hgd]
  rw [if_pos hw]
  obtain ⟨i, hi, hz, hsz, hby⟩ := info_of infoInt'
  have hsrc : Rw w (fun _ => True) (.slice (some ⟨g, 0, none⟩) 1 1) 1 [.int .i64 z] := by
    refine ⟨_, 1, rfl, Nat.le_refl _, by omega, fun h => by omega, fun h => (by cases h), fun _ => ⟨g, 0, rfl, block_lt hB, trivial, fun j u hu => ?_⟩⟩
    cases j with
    | zero => simp at hu; subst hu; simpa using hB
    | succ j => simp at hu
  obtain ⟨v', w', hr, h2, h3, h5⟩ := run_append_row_at (P := Tryd.prog) (w := w) 0 23 o.type 3 i _ 1 8 Tryd.underlying23 hi hz hsz hby rfl (by decide) v n xs hown (fun _ => True) _ 1 [.int .i64 z] hsrc rfl (by intro u hu; simp at hu; subst hu; rfl) (by unfold maxLen; omega) (by omega) (Nat.zero_le _)
  obtain ⟨a', c', rfl⟩ := own_shape h2
  have hbl := h3.block b0 (block_lt hc0) (fun e => hne e.symm)
  unfold Oper.wp execOp
  simp only [ho, resolve, invoke, builtin, Sem.run_bind, Sem.run_pure, Result.andThen_ok, List.map_toArray, List.map_cons, List.map_nil, hs, hx, hr]
  exact h a' _ c' w' h2 h3 h5 ((World.cell?_of_block (w := w) (a := ⟨b0, o0, none⟩) hbl).trans hc0) ((World.frozen?_of_block (w := w) (a := ⟨b0, o0, none⟩) hbl).trans hf0)
end Go.Proofs.YtpgogpphobafoaaDoor
/-
  What the law's helpers do with slices of strings and of numbers: copied, held against each other, sizes summed.
-/
namespace Go.Proofs.YtpgogpphobafoaaDoor
open Go.RowKit

theorem made_strs (n : Nat) : madeCells (Value.string ⟨#[]⟩).cells (n * 1) = ((List.replicate n ⟨#[]⟩).map Value.string).toArray := by
  apply Array.ext
  · simp [madeCells]
  · intro i h1 h2; simp [madeCells, Value.cells, Nat.mod_one]
theorem infoStringS : (Tryd.prog.info? 9).map (fun i => (i.zero, i.size, i.bytes)) = some (some (Value.string ⟨#[]⟩), 1, 16) := by kernel_rfl
def ptStringS (l : List ByteArray) (k : Nat) : List ByteArray := l.take k ++ List.replicate (l.length - k) ⟨#[]⟩
theorem ptStringS_length (l : List ByteArray) (k : Nat) (h : k ≤ l.length) : (ptStringS l k).length = l.length := by simp [ptStringS]; omega
theorem ptStringS_set (l : List ByteArray) (k : Nat) (h : k < l.length) : (ptStringS l k).set k (sAt l k) = ptStringS l (k + 1) := by
  have e : sAt l k = l[k] := by simp [sAt, h]
  rw [e]
  have hl : (l.take k).length = k := by simp; omega
  simp only [ptStringS]
  rw [List.set_append_right _ _ (by omega), hl]
  have h2 : l.length - k = (l.length - (k + 1)) + 1 := by omega
  rw [List.take_succ_eq_append_getElem h, h2, List.replicate_succ, Nat.sub_self, List.set_cons_zero, List.append_assoc]
  rfl
set_option maxHeartbeats 2000000 in
theorem toStringS_at (S : Nat → Prop) (a : Option Addr) (n c : Nat) (l : List ByteArray) (w : World) (h : Sr w S (.slice a n c) l) (hnm : n ≤ 1048576) :
    Calls Tryd.prog 32 #[.slice a n c] w fun e w' => e = .returned (.slice (some ⟨w.heap.size, 0, none⟩) n n) ∧ Bk w' w.heap.size 9 (l.map Value.string) ∧ Below w.heap.size w w' := by
  have HN := hid (Rw.len h).1
  have H0 := hid h
  clear h
  have hmk := run_make_n (P := Tryd.prog) 22 9 (Value.string ⟨#[]⟩) 1 16 Tryd.underlying22 infoStringS n (by omega) (by omega)
  rw [made_strs] at hmk
  have HM : Hid ((List.replicate n ⟨#[]⟩).map Value.string = (ptStringS l 0).map Value.string) := by
    show _ = _
    rw [HN.out]; simp [ptStringS]
  rw [HM.out] at hmk
  have h63 : n ≤ 9223372036854775807 := by omega
  go_enter Tryd.func32, Tryd.ntmps32
  go_wp2
  go_loopw [4] (fun i wr => ∃ k : Nat, k ≤ n ∧ i = .int .i64 k ∧ Hid (Bk wr w.heap.size 9 ((ptStringS l k).map Value.string)) ∧ Hid (Below w.heap.size w wr)) (fun i _ => n - (intOf i).toNat)
  case atStart => exact ⟨0, Nat.zero_le _, rfl, Bk.new _ _ _, (Below.refl _ _).alloc (Nat.le_refl _) _⟩
  case round =>
    obtain ⟨k, hk, rfl, HK, HB⟩ := hrel
    by_cases hlt : k < n
    · have hlt' : (k : Int) < (n : Int) := by omega
      have HP := hid (H0.out.below HB.out)
      obtain ⟨b, off, rfl, _, hbw, hcell⟩ := HP.out.at (by omega)
      have hck := hcell k hlt
      have HSET : Hid ((ptStringS l k).set k (sAt l k) = ptStringS l (k + 1)) := ptStringS_set l k (by rw [← HN.out]; exact hlt)
      have HLE : Hid ((ptStringS l k).length = n) := by show _ = _; rw [ptStringS_length l k (by rw [← HN.out]; exact hk), ← HN.out]
      clear hcell hbw
      generalize hcur : sAt l k = ck at hck HSET
      clear hcur HP
      have hc0 : wr.cell? ⟨w.heap.size, k, none⟩ = some (Value.string (sAt (ptStringS l k) k)) := HK.out.cell (by simp [sAt, show k < (ptStringS l k).length by rw [HLE.out]; exact hlt])
      have hf0 := HK.out.free k
      have HK2 : Hid (Bk (wr.setCell ⟨w.heap.size, k, none⟩ (Value.string ck)) w.heap.size 9 ((ptStringS l (k + 1)).map Value.string)) := by
        show Bk _ _ _ _
        rw [← HSET.out, List.map_set]
        exact HK.out.set _ _
      have HB2 : Hid (Below w.heap.size w (wr.setCell ⟨w.heap.size, k, none⟩ (Value.string ck))) := HB.out.setCell (Nat.le_refl _) _
      generalize sAt (ptStringS l k) k = old at hc0
      go_wp2
      go_roundw
      case rel => exact ⟨k + 1, by omega, by go_num, HK2.out, HB2.out⟩
      case measure => simp [intOf]; omega
    · have hk' : k = n := by omega
      have HA : Hid ((ptStringS l k).map Value.string = l.map Value.string) := by show _ = _; rw [hk', HN.out]; simp [ptStringS]
      clear hk'
      go_wp2
      go_ret
      refine ⟨rfl, ?_, HB.out⟩
      rw [← HA.out]; exact HK.out
set_option maxHeartbeats 2000000 in
theorem eqStringS_at (S S' : Nat → Prop) (a a' : Option Addr) (n n' c c' : Nat) (l l' : List ByteArray) (w : World) (h : Sr w S (.slice a n c) l) (h' : Sr w S' (.slice a' n' c') l') :
    Calls Tryd.prog 40 #[.slice a n c, .slice a' n' c'] w fun e w' => e = .returned (.bool (decide (l = l'))) ∧ Below w.heap.size w w' := by
  obtain ⟨hn, hnc, hcc⟩ := Rw.len h
  obtain ⟨hn', hnc', hcc'⟩ := Rw.len h'
  have HN := hid hn
  have HN' := hid hn'
  have H0 := hid h
  have H0' := hid h'
  clear h h' hn hn'
  by_cases hne : n = n'
  · subst hne
    have hz : ((n : Int) != (n : Int)) = false := by simp
    go_enter Tryd.func40, Tryd.ntmps40
    go_wp2
    go_loopw [5] (fun i wr => ∃ k : Nat, k ≤ n ∧ i = .int .i64 k ∧ Hid (Below w.heap.size w wr) ∧ Hid (l.take k = l'.take k)) (fun i _ => n - (intOf i).toNat)
    case atStart => exact ⟨0, Nat.zero_le _, rfl, Below.refl _ _, rfl⟩
    case round =>
      obtain ⟨k, hk, rfl, HB, HT⟩ := hrel
      by_cases hlt : k < n
      · have hlt' : (k : Int) < (n : Int) := by omega
        have HP := hid (H0.out.below HB.out)
        have HP' := hid (H0'.out.below HB.out)
        obtain ⟨b, off, rfl, _, hbw, hcell⟩ := HP.out.at (by omega)
        obtain ⟨b', off', rfl, _, hbw', hcell'⟩ := HP'.out.at (by omega)
        have hck := hcell k hlt
        have hck' := hcell' k hlt
        have HS : Hid (sAt l k = sAt l' k → l.take (k + 1) = l'.take (k + 1)) := by
          intro e
          have hl : k < l.length := by rw [← HN.out]; exact hlt
          have hl' : k < l'.length := by rw [← HN'.out]; exact hlt
          rw [List.take_succ_eq_append_getElem hl, List.take_succ_eq_append_getElem hl', HT.out]
          simp [sAt, hl, hl'] at e
          rw [e]
        have HF : Hid (sAt l k ≠ sAt l' k → decide (l = l') = false) := by
          intro e
          rw [decide_eq_false_iff_not]
          intro e'
          exact e (by rw [e'])
        clear hcell hcell' hbw hbw' HP HP' HT
        generalize sAt l k = ck at *
        generalize sAt l' k = ck' at *
        by_cases he : ck = ck'
        · have HS1 := hid (HS.out he)
          subst he
          skip
          clear HS HF
          go_wp2
          go_quiet (fail)
          go_wp2
          go_roundw
          case rel => exact ⟨k + 1, by omega, by go_num, Below.drewN' HB.out _, HS1.out⟩
          case measure => simp [intOf]; omega
        · have HF1 := hid (HF.out he)
          have t := str_beq he
          clear he HS HF
          go_wp2
          go_quiet (fail)
          go_wp2
          go_ret
          exact ⟨by rw [HF1.out]; rfl, Below.drewN' HB.out _⟩
      · have HF : Hid (decide (l = l') = true) := by
          show decide (l = l') = true
          have hk' : k = n := by omega
          have e := HT.out
          have e1 : l.length ≤ k := by rw [← HN.out]; omega
          have e2 : l'.length ≤ k := by rw [← HN'.out]; omega
          rw [List.take_of_length_le e1, List.take_of_length_le e2] at e
          simp [e]
        clear HT
        go_wp2
        go_ret
        exact ⟨by rw [HF.out]; rfl, HB.out⟩
  · have hz : ((n : Int) != (n' : Int)) = true := by simp; omega
    have HF : Hid (decide (l = l') = false) := by
      show decide (l = l') = false
      rw [decide_eq_false_iff_not]
      intro e
      exact hne (by rw [HN.out, HN'.out, e])
    clear hne
    go_enter Tryd.func40, Tryd.ntmps40
    go_wp2
    go_ret
    exact ⟨by rw [HF.out]; rfl, Below.refl _ _⟩
theorem made_ints (n : Nat) : madeCells (Value.int .i64 0).cells (n * 1) = ((List.replicate n 0).map (Value.int .i64)).toArray := by
  apply Array.ext
  · simp [madeCells]
  · intro i h1 h2; simp [madeCells, Value.cells, Nat.mod_one]
theorem infoIntS : (Tryd.prog.info? 3).map (fun i => (i.zero, i.size, i.bytes)) = some (some (Value.int .i64 0), 1, 8) := by kernel_rfl
def ptIntS (l : List Int) (k : Nat) : List Int := l.take k ++ List.replicate (l.length - k) 0
theorem ptIntS_length (l : List Int) (k : Nat) (h : k ≤ l.length) : (ptIntS l k).length = l.length := by simp [ptIntS]; omega
theorem ptIntS_set (l : List Int) (k : Nat) (h : k < l.length) : (ptIntS l k).set k (iAt l k) = ptIntS l (k + 1) := by
  have e : iAt l k = l[k] := by simp [iAt, h]
  rw [e]
  have hl : (l.take k).length = k := by simp; omega
  simp only [ptIntS]
  rw [List.set_append_right _ _ (by omega), hl]
  have h2 : l.length - k = (l.length - (k + 1)) + 1 := by omega
  rw [List.take_succ_eq_append_getElem h, h2, List.replicate_succ, Nat.sub_self, List.set_cons_zero, List.append_assoc]
  rfl
set_option maxHeartbeats 2000000 in
theorem toIntS_at (S : Nat → Prop) (a : Option Addr) (n c : Nat) (l : List Int) (w : World) (h : Ir w S (.slice a n c) l) (hnm : n ≤ 1048576) :
    Calls Tryd.prog 33 #[.slice a n c] w fun e w' => e = .returned (.slice (some ⟨w.heap.size, 0, none⟩) n n) ∧ Bk w' w.heap.size 3 (l.map (Value.int .i64)) ∧ Below w.heap.size w w' := by
  have HN := hid (Rw.len h).1
  have H0 := hid h
  clear h
  have hmk := run_make_n (P := Tryd.prog) 23 3 (Value.int .i64 0) 1 8 Tryd.underlying23 infoIntS n (by omega) (by omega)
  rw [made_ints] at hmk
  have HM : Hid ((List.replicate n 0).map (Value.int .i64) = (ptIntS l 0).map (Value.int .i64)) := by
    show _ = _
    rw [HN.out]; simp [ptIntS]
  rw [HM.out] at hmk
  have h63 : n ≤ 9223372036854775807 := by omega
  go_enter Tryd.func33, Tryd.ntmps33
  go_wp2
  go_loopw [4] (fun i wr => ∃ k : Nat, k ≤ n ∧ i = .int .i64 k ∧ Hid (Bk wr w.heap.size 3 ((ptIntS l k).map (Value.int .i64))) ∧ Hid (Below w.heap.size w wr)) (fun i _ => n - (intOf i).toNat)
  case atStart => exact ⟨0, Nat.zero_le _, rfl, Bk.new _ _ _, (Below.refl _ _).alloc (Nat.le_refl _) _⟩
  case round =>
    obtain ⟨k, hk, rfl, HK, HB⟩ := hrel
    by_cases hlt : k < n
    · have hlt' : (k : Int) < (n : Int) := by omega
      have HP := hid (H0.out.below HB.out)
      obtain ⟨b, off, rfl, _, hbw, hcell⟩ := HP.out.at (by omega)
      have hck := hcell k hlt
      have HSET : Hid ((ptIntS l k).set k (iAt l k) = ptIntS l (k + 1)) := ptIntS_set l k (by rw [← HN.out]; exact hlt)
      have HLE : Hid ((ptIntS l k).length = n) := by show _ = _; rw [ptIntS_length l k (by rw [← HN.out]; exact hk), ← HN.out]
      clear hcell hbw
      generalize hcur : iAt l k = ck at hck HSET
      clear hcur HP
      have hc0 : wr.cell? ⟨w.heap.size, k, none⟩ = some ((Value.int .i64) (iAt (ptIntS l k) k)) := HK.out.cell (by simp [iAt, show k < (ptIntS l k).length by rw [HLE.out]; exact hlt])
      have hf0 := HK.out.free k
      have HK2 : Hid (Bk (wr.setCell ⟨w.heap.size, k, none⟩ ((Value.int .i64) ck)) w.heap.size 3 ((ptIntS l (k + 1)).map (Value.int .i64))) := by
        show Bk _ _ _ _
        rw [← HSET.out, List.map_set]
        exact HK.out.set _ _
      have HB2 : Hid (Below w.heap.size w (wr.setCell ⟨w.heap.size, k, none⟩ ((Value.int .i64) ck))) := HB.out.setCell (Nat.le_refl _) _
      generalize iAt (ptIntS l k) k = old at hc0
      go_wp2
      go_roundw
      case rel => exact ⟨k + 1, by omega, by go_num, HK2.out, HB2.out⟩
      case measure => simp [intOf]; omega
    · have hk' : k = n := by omega
      have HA : Hid ((ptIntS l k).map (Value.int .i64) = l.map (Value.int .i64)) := by show _ = _; rw [hk', HN.out]; simp [ptIntS]
      clear hk'
      go_wp2
      go_ret
      refine ⟨rfl, ?_, HB.out⟩
      rw [← HA.out]; exact HK.out
set_option maxHeartbeats 2000000 in
theorem eqIntS_at (S S' : Nat → Prop) (a a' : Option Addr) (n n' c c' : Nat) (l l' : List Int) (w : World) (h : Ir w S (.slice a n c) l) (h' : Ir w S' (.slice a' n' c') l') :
    Calls Tryd.prog 41 #[.slice a n c, .slice a' n' c'] w fun e w' => e = .returned (.bool (decide (l = l'))) ∧ Below w.heap.size w w' := by
  obtain ⟨hn, hnc, hcc⟩ := Rw.len h
  obtain ⟨hn', hnc', hcc'⟩ := Rw.len h'
  have HN := hid hn
  have HN' := hid hn'
  have H0 := hid h
  have H0' := hid h'
  clear h h' hn hn'
  by_cases hne : n = n'
  · subst hne
    have hz : ((n : Int) != (n : Int)) = false := by simp
    go_enter Tryd.func41, Tryd.ntmps41
    go_wp2
    go_loopw [5] (fun i wr => ∃ k : Nat, k ≤ n ∧ i = .int .i64 k ∧ Hid (Below w.heap.size w wr) ∧ Hid (l.take k = l'.take k)) (fun i _ => n - (intOf i).toNat)
    case atStart => exact ⟨0, Nat.zero_le _, rfl, Below.refl _ _, rfl⟩
    case round =>
      obtain ⟨k, hk, rfl, HB, HT⟩ := hrel
      by_cases hlt : k < n
      · have hlt' : (k : Int) < (n : Int) := by omega
        have HP := hid (H0.out.below HB.out)
        have HP' := hid (H0'.out.below HB.out)
        obtain ⟨b, off, rfl, _, hbw, hcell⟩ := HP.out.at (by omega)
        obtain ⟨b', off', rfl, _, hbw', hcell'⟩ := HP'.out.at (by omega)
        have hck := hcell k hlt
        have hck' := hcell' k hlt
        have HS : Hid (iAt l k = iAt l' k → l.take (k + 1) = l'.take (k + 1)) := by
          intro e
          have hl : k < l.length := by rw [← HN.out]; exact hlt
          have hl' : k < l'.length := by rw [← HN'.out]; exact hlt
          rw [List.take_succ_eq_append_getElem hl, List.take_succ_eq_append_getElem hl', HT.out]
          simp [iAt, hl, hl'] at e
          rw [e]
        have HF : Hid (iAt l k ≠ iAt l' k → decide (l = l') = false) := by
          intro e
          rw [decide_eq_false_iff_not]
          intro e'
          exact e (by rw [e'])
        clear hcell hcell' hbw hbw' HP HP' HT
        generalize iAt l k = ck at *
        generalize iAt l' k = ck' at *
        by_cases he : ck = ck'
        · have HS1 := hid (HS.out he)
          subst he
          have t : (ck != ck) = false := by simp
          clear HS HF
          go_wp2
          go_quiet (fail)
          go_wp2
          go_roundw
          case rel => exact ⟨k + 1, by omega, by go_num, Below.drewN' HB.out _, HS1.out⟩
          case measure => simp [intOf]; omega
        · have HF1 := hid (HF.out he)
          have t : (ck != ck') = true := by simp [he]
          clear he HS HF
          go_wp2
          go_quiet (fail)
          go_wp2
          go_ret
          exact ⟨by rw [HF1.out]; rfl, Below.drewN' HB.out _⟩
      · have HF : Hid (decide (l = l') = true) := by
          show decide (l = l') = true
          have hk' : k = n := by omega
          have e := HT.out
          have e1 : l.length ≤ k := by rw [← HN.out]; omega
          have e2 : l'.length ≤ k := by rw [← HN'.out]; omega
          rw [List.take_of_length_le e1, List.take_of_length_le e2] at e
          simp [e]
        clear HT
        go_wp2
        go_ret
        exact ⟨by rw [HF.out]; rfl, HB.out⟩
  · have hz : ((n : Int) != (n' : Int)) = true := by simp; omega
    have HF : Hid (decide (l = l') = false) := by
      show decide (l = l') = false
      rw [decide_eq_false_iff_not]
      intro e
      exact hne (by rw [HN.out, HN'.out, e])
    clear hne
    go_enter Tryd.func41, Tryd.ntmps41
    go_wp2
    go_ret
    exact ⟨by rw [HF.out]; rfl, Below.refl _ _⟩
def szOkS (l : List ByteArray) : Prop := ∀ i, (sAt l i).size ≤ 9223372036854775807
set_option maxHeartbeats 2000000 in
theorem szStringS_at (S : Nat → Prop) (a : Option Addr) (n c : Nat) (l : List ByteArray) (left : Int) (w : World) (h : Sr w S (.slice a n c) l) (hsz : szOkS l) (h0 : 0 ≤ left) (h1 : left ≤ 1048576) :
    Calls Tryd.prog 26 #[.slice a n c, .int .i64 left] w fun e w' => (∃ x : Int, e = .returned (.int .i64 x) ∧ x ≤ left ∧ -1 ≤ x ∧ (0 ≤ x → n ≤ 1048576)) ∧ Below w.heap.size w w' := by
  obtain ⟨hn, hnc, hcc⟩ := Rw.len h
  have HN := hid hn
  have H0 := hid h
  have HZ := hid hsz
  clear h hsz hn
  by_cases hbig : left - (n : Int) < 0
  · go_enter Tryd.func26, Tryd.ntmps26
    go_wp2
    go_ret
    exact ⟨⟨_, rfl, by omega, by omega, fun h => by omega⟩, Below.refl _ _⟩
  · have hn2 : n ≤ 1048576 := by omega
    go_enter Tryd.func26, Tryd.ntmps26
    go_wp2
    go_loopw [1, 5] (fun x i wr => ∃ (k : Nat) (y : Int), k ≤ n ∧ i = .int .i64 k ∧ x = .int .i64 y ∧ 0 ≤ y ∧ y ≤ left ∧ wr = w) (fun _ i _ => n - (intOf i).toNat)
    case atStart => exact ⟨0, _, Nat.zero_le _, rfl, rfl, by omega, by omega, rfl⟩
    case round =>
      obtain ⟨k, y, hk, rfl, rfl, hy0, hy1, rfl⟩ := hrel
      by_cases hlt : k < n
      · have hlt' : (k : Int) < (n : Int) := by omega
        obtain ⟨b, off, rfl, _, hbw, hcell⟩ := H0.out.at (by omega)
        have hck := hcell k hlt
        have hs := HZ.out k
        clear hcell hbw
        generalize sAt l k = s at hck hs
        by_cases hneg : y - (s.size : Int) < 0
        · go_wp2
          go_ret
          exact ⟨⟨_, rfl, by omega, by omega, fun h => by omega⟩, Below.refl _ _⟩
        · go_wp2
          go_roundw
          case rel => exact ⟨k + 1, y - (s.size : Int), by omega, by go_num, rfl, by omega, by omega, by trivial⟩
          case measure => simp [intOf]; omega
      · go_wp2
        go_ret
        exact ⟨⟨_, rfl, by omega, by omega, fun _ => hn2⟩, Below.refl _ _⟩
theorem szIntS_at (a : Option Addr) (n c : Nat) (left : Int) (w : World) (hc : n ≤ 9223372036854775807) (h0 : 0 ≤ left) (h1 : left ≤ 1048576) :
    Calls Tryd.prog 27 #[.slice a n c, .int .i64 left] w fun e w' => (∃ x : Int, e = .returned (.int .i64 x) ∧ x ≤ left ∧ -1 ≤ x ∧ (0 ≤ x → n ≤ 1048576)) ∧ Below w.heap.size w w' := by
  go_enter Tryd.func27, Tryd.ntmps27
  go_wp2
  all_goals (go_ret; exact ⟨⟨_, rfl, by omega, by omega, fun h => by omega⟩, Below.refl _ _⟩)
end Go.Proofs.YtpgogpphobafoaaDoor
/-
  Blocks that may be written.
-/
namespace Go.Proofs.YtpgogpphobafoaaDoor
open Go.RowKit
/-- Block b is a row that may be written. -/
def Uf (w : World) (b : Nat) : Prop := ∃ xs T, w.heap[b]? = some (.cells xs T (0, 0))
theorem Bk.uf {w : World} {g : Nat} {T : TypeId} {xs : List Value} (h : Bk w g T xs) : Uf w g := ⟨_, _, h⟩
theorem Uf.to {w w' : World} {b : Nat} {R : Nat → Prop} (h : Uf w b) (ho : Only R w w') (hR : ¬ R b) : Uf w' b := by
  obtain ⟨xs, T, h⟩ := h
  exact ⟨xs, T, (ho.block b (Array.getElem?_eq_some_iff.1 h).1 hR).trans h⟩
end Go.Proofs.YtpgogpphobafoaaDoor
/-
  What the law's helpers do with pages: copied, sizes summed, held against each other.
-/
namespace Go.Proofs.YtpgogpphobafoaaDoor
open Go.RowKit
instance : DecidableEq PG := fun a b => decidable_of_iff (a.keys = b.keys ∧ a.vals = b.vals ∧ a.kids = b.kids) (by cases a; cases b; simp)
theorem load_pg {w : World} {g : Nat} {x y z : Value} (c0 : w.cell? ⟨g, 0, none⟩ = some x) (c1 : w.cell? ⟨g, 1, none⟩ = some y) (c2 : w.cell? ⟨g, 2, none⟩ = some z) :
    (loadVar 30 ⟨g, 0, none⟩).run Tryd.prog w = .ok (.agg #[x, y, z]) w := by go_simp
theorem results_pg {fn : Func} {p : Tmp} (h : fn.results = #[.cell p 30]) (tmps : Array Value) (w : World) (g : Nat) {x y z : Value} (hp : tmps.getD p undef = .pointer (some ⟨g, 0, none⟩))
    (c0 : w.cell? ⟨g, 0, none⟩ = some x) (c1 : w.cell? ⟨g, 1, none⟩ = some y) (c2 : w.cell? ⟨g, 2, none⟩ = some z) : (results fn tmps).run Tryd.prog w = .ok (.agg #[x, y, z]) w := by
  have hp' : tmps[p]?.getD undef = .pointer (some ⟨g, 0, none⟩) := by simpa using hp
  simp [results, h, hp', asAddr, load_pg c0 c1 c2]
set_option maxHeartbeats 2000000 in
theorem toPage_any (S : Nat → Prop) (ap ax ai : Option Addr) (np cp nx cx ni ci : Nat) (x : PG) (w : World) (hP : Sr w S (.slice ap np cp) x.keys) (hS : Sr w S (.slice ax nx cx) x.vals) (hI : Ir w S (.slice ai ni ci) x.kids)
    (h1 : np ≤ 1048576) (h2 : nx ≤ 1048576) (h3 : ni ≤ 1048576) :
    Calls Tryd.prog 9 #[.agg #[.slice ap np cp, .slice ax nx cx, .slice ai ni ci]] w fun e w' => ∃ g0 g1 g2, e = .returned (.agg #[.slice (some ⟨g0, 0, none⟩) np np, .slice (some ⟨g1, 0, none⟩) nx nx, .slice (some ⟨g2, 0, none⟩) ni ni]) ∧
      w.heap.size ≤ g0 ∧ w.heap.size ≤ g1 ∧ w.heap.size ≤ g2 ∧ Bk w' g0 9 (x.keys.map Value.string) ∧ Bk w' g1 9 (x.vals.map Value.string) ∧ Bk w' g2 3 (x.kids.map (Value.int .i64)) ∧ Below w.heap.size w w' := by
  have HP := hid hP
  have HS := hid hS
  have HI := hid hI
  clear hP hS hI
  go_enter Tryd.func9, Tryd.ntmps9
  have HB0 : Hid (Below w.heap.size w (((w.alloc (.cells #[.slice ap np cp, .slice ax nx cx, .slice ai ni ci] 25)).alloc (.cells #[.slice none 0 0, .slice none 0 0, .slice none 0 0] 30)).alloc (.cells #[.slice none 0 0, .slice none 0 0, .slice none 0 0] 30))) := below_new (below_new (below_new (Below.refl _ _)))
  have KP : Hid (Bk (((w.alloc (.cells #[.slice ap np cp, .slice ax nx cx, .slice ai ni ci] 25)).alloc (.cells #[.slice none 0 0, .slice none 0 0, .slice none 0 0] 30)).alloc (.cells #[.slice none 0 0, .slice none 0 0, .slice none 0 0] 30)) w.heap.size 25 [.slice ap np cp, .slice ax nx cx, .slice ai ni ci]) := ((Bk.new w 25 [.slice ap np cp, .slice ax nx cx, .slice ai ni ci]).alloc _).alloc _
  have KR : Hid (Bk (((w.alloc (.cells #[.slice ap np cp, .slice ax nx cx, .slice ai ni ci] 25)).alloc (.cells #[.slice none 0 0, .slice none 0 0, .slice none 0 0] 30)).alloc (.cells #[.slice none 0 0, .slice none 0 0, .slice none 0 0] 30)) (w.heap.size + 1) 30 [.slice none 0 0, .slice none 0 0, .slice none 0 0]) := by
    have := (Bk.new (w.alloc (.cells #[.slice ap np cp, .slice ax nx cx, .slice ai ni ci] 25)) 30 [.slice none 0 0, .slice none 0 0, .slice none 0 0]).alloc (.cells #[.slice none 0 0, .slice none 0 0, .slice none 0 0] 30)
    show Bk _ _ _ _
    simpa using this
  have KO : Hid (Bk (((w.alloc (.cells #[.slice ap np cp, .slice ax nx cx, .slice ai ni ci] 25)).alloc (.cells #[.slice none 0 0, .slice none 0 0, .slice none 0 0] 30)).alloc (.cells #[.slice none 0 0, .slice none 0 0, .slice none 0 0] 30)) (w.heap.size + 1 + 1) 30 [.slice none 0 0, .slice none 0 0, .slice none 0 0]) := by
    have := Bk.new ((w.alloc (.cells #[.slice ap np cp, .slice ax nx cx, .slice ai ni ci] 25)).alloc (.cells #[.slice none 0 0, .slice none 0 0, .slice none 0 0] 30)) 30 [.slice none 0 0, .slice none 0 0, .slice none 0 0]
    show Bk _ _ _ _
    simpa using this
  have HZ : Hid ((((w.alloc (.cells #[.slice ap np cp, .slice ax nx cx, .slice ai ni ci] 25)).alloc (.cells #[.slice none 0 0, .slice none 0 0, .slice none 0 0] 30)).alloc (.cells #[.slice none 0 0, .slice none 0 0, .slice none 0 0] 30)).heap.size = w.heap.size + 3) := by show _ = _; simp
  go_wp2_with fail
  refine (toStringS_at S ap np cp x.keys _ (HP.out.below HB0.out) h1).mono ?_
  generalize (((w.alloc (.cells #[.slice ap np cp, .slice ax nx cx, .slice ai ni ci] 25)).alloc (.cells #[.slice none 0 0, .slice none 0 0, .slice none 0 0] 30)).alloc (.cells #[.slice none 0 0, .slice none 0 0, .slice none 0 0] 30)) = W at *
  rintro e w1 ⟨rfl, K0, hb1⟩
  have HB1 := hid (HB0.out.trans (hb1.mono HB0.out.size))
  have KP1 := hid (KP.out.below hb1)
  have KR1 := hid (KR.out.below hb1)
  have KO1 := hid (KO.out.below hb1)
  have K01 := hid K0
  have HG0 : Hid (w.heap.size + 3 ≤ W.heap.size) := Nat.le_of_eq HZ.out.symm
  clear hb1 K0 KP KR KO HB0 HZ
  generalize W.heap.size = g0 at *
  have c0 := KO1.out.cell (j := 0) rfl
  have f0 := KO1.out.free 0
  have p1 := KP1.out.cell (j := 1) rfl
  have HG0' := HG0.out
  have HB2 : Hid (Below w.heap.size w (w1.setCell ⟨w.heap.size + 1 + 1, 0, none⟩ (.slice (some ⟨g0, 0, none⟩) np np))) := HB1.out.setCell (by show w.heap.size ≤ w.heap.size + 1 + 1; omega) _
  have KP2 := hid (KP1.out.setOther (b := w.heap.size + 1 + 1) (by omega) 0 (.slice (some ⟨g0, 0, none⟩) np np))
  have KR2 := hid (KR1.out.setOther (b := w.heap.size + 1 + 1) (by omega) 0 (.slice (some ⟨g0, 0, none⟩) np np))
  have KO2 := hid (KO1.out.set 0 (.slice (some ⟨g0, 0, none⟩) np np))
  have K02 := hid (K01.out.setOther (b := w.heap.size + 1 + 1) (by omega) 0 (.slice (some ⟨g0, 0, none⟩) np np))
  have HL : Hid (g0 < (w1.setCell ⟨w.heap.size + 1 + 1, 0, none⟩ (.slice (some ⟨g0, 0, none⟩) np np)).heap.size) := K02.out.lt
  clear HB1 KP1 KR1 KO1 K01 HG0'
  go_wp2_with fail
  refine (toStringS_at S ax nx cx x.vals _ (HS.out.below HB2.out) h2).mono ?_
  generalize w1.setCell ⟨w.heap.size + 1 + 1, 0, none⟩ (.slice (some ⟨g0, 0, none⟩) np np) = W2 at *
  clear c0 f0 p1
  rintro e w2 ⟨rfl, K1, hb2⟩
  have HB3 := hid (HB2.out.trans (hb2.mono HB2.out.size))
  have KP3 := hid (KP2.out.below hb2)
  have KR3 := hid (KR2.out.below hb2)
  have KO3 := hid (KO2.out.below hb2)
  have K03 := hid (K02.out.below hb2)
  have K13 := hid K1
  clear hb2 K1 KP2 KR2 KO2 K02 HB2
  generalize W2.heap.size = g1 at *
  have c1 := KO3.out.cell (j := 1) rfl
  have f1 := KO3.out.free 1
  have p2 := KP3.out.cell (j := 2) rfl
  have HG0' := HG0.out
  have HL' := HL.out
  have HB4 : Hid (Below w.heap.size w (w2.setCell ⟨w.heap.size + 1 + 1, 1, none⟩ (.slice (some ⟨g1, 0, none⟩) nx nx))) := HB3.out.setCell (by show w.heap.size ≤ w.heap.size + 1 + 1; omega) _
  have KR4 := hid (KR3.out.setOther (b := w.heap.size + 1 + 1) (by omega) 1 (.slice (some ⟨g1, 0, none⟩) nx nx))
  have KO4 := hid (KO3.out.set 1 (.slice (some ⟨g1, 0, none⟩) nx nx))
  have K04 := hid (K03.out.setOther (b := w.heap.size + 1 + 1) (by omega) 1 (.slice (some ⟨g1, 0, none⟩) nx nx))
  have K14 := hid (K13.out.setOther (b := w.heap.size + 1 + 1) (by omega) 1 (.slice (some ⟨g1, 0, none⟩) nx nx))
  have HL1 : Hid (g1 < (w2.setCell ⟨w.heap.size + 1 + 1, 1, none⟩ (.slice (some ⟨g1, 0, none⟩) nx nx)).heap.size) := K14.out.lt
  clear HB3 KP3 KR3 KO3 K03 K13 HG0' HL'
  go_wp2_with fail
  refine (toIntS_at S ai ni ci x.kids _ (HI.out.below HB4.out) h3).mono ?_
  generalize w2.setCell ⟨w.heap.size + 1 + 1, 1, none⟩ (.slice (some ⟨g1, 0, none⟩) nx nx) = W4 at *
  clear c1 f1 p2
  rintro e w3 ⟨rfl, K2, hb3⟩
  have HB5 := hid (HB4.out.trans (hb3.mono HB4.out.size))
  have KR5 := hid (KR4.out.below hb3)
  have KO5 := hid (KO4.out.below hb3)
  have K05 := hid (K04.out.below hb3)
  have K15 := hid (K14.out.below hb3)
  have K25 := hid K2
  clear hb3 K2 KR4 KO4 K04 K14 HB4
  generalize W4.heap.size = g2 at *
  have c0 := KO5.out.cell (j := 0) rfl
  have c1 := KO5.out.cell (j := 1) rfl
  have c2 := KO5.out.cell (j := 2) rfl
  have f2 := KO5.out.free 2
  have r0 := KR5.out.cell (j := 0) rfl
  have r1 := KR5.out.cell (j := 1) rfl
  have r2 := KR5.out.cell (j := 2) rfl
  have q0 := KR5.out.free 0
  have q1 := KR5.out.free 1
  have q2 := KR5.out.free 2
  go_wp2
  try simp only [Exit.inBlock, Exit.then]
  refine bodyPost_ret (v := .agg #[.slice (some ⟨g0, 0, none⟩) np np, .slice (some ⟨g1, 0, none⟩) nx nx, .slice (some ⟨g2, 0, none⟩) ni ni]) ?_ rfl ?_
  · refine results_pg rfl _ _ _ rfl ?_ ?_ ?_
    · go_simp
    · go_simp
    · go_simp
  · have HG0' := HG0.out
    have HL' := HL.out
    have HL1' := HL1.out
    refine ⟨g0, g1, g2, rfl, by omega, by omega, by omega, ?_, ?_, ?_, ?_⟩
    · exact (((K05.out.setOther (by omega) _ _).setOther (by omega) _ _).setOther (by omega) _ _).setOther (by omega) _ _
    · exact (((K15.out.setOther (by omega) _ _).setOther (by omega) _ _).setOther (by omega) _ _).setOther (by omega) _ _
    · exact (((K25.out.setOther (by omega) _ _).setOther (by omega) _ _).setOther (by omega) _ _).setOther (by omega) _ _
    · exact (((HB5.out.setCell (by show w.heap.size ≤ w.heap.size + 1 + 1; omega) _).setCell (by show w.heap.size ≤ w.heap.size + 1; omega) _).setCell (by show w.heap.size ≤ w.heap.size + 1; omega) _).setCell (by show w.heap.size ≤ w.heap.size + 1; omega) _
set_option maxHeartbeats 2000000 in
theorem szPage_any (S : Nat → Prop) (ap ax ai : Option Addr) (np cp nx cx ni ci : Nat) (x : PG) (left : Int) (w : World) (hP : Sr w S (.slice ap np cp) x.keys) (hS : Sr w S (.slice ax nx cx) x.vals) (hI : Ir w S (.slice ai ni ci) x.kids)
    (z0 : szOkS x.keys) (z1 : szOkS x.vals) (h0 : 0 ≤ left) (h1 : left ≤ 1048576) :
    Calls Tryd.prog 7 #[.agg #[.slice ap np cp, .slice ax nx cx, .slice ai ni ci], .int .i64 left] w fun e w' => (∃ y : Int, e = .returned (.int .i64 y) ∧ y ≤ left ∧ -1 ≤ y ∧ (0 ≤ y → np ≤ 1048576 ∧ nx ≤ 1048576 ∧ ni ≤ 1048576)) ∧ Below w.heap.size w w' := by
  have hnc := (Rw.len hI).2.1
  have hcc := (Rw.len hI).2.2
  have HP := hid hP
  have HS := hid hS
  have HZ0 := hid z0
  have HZ1 := hid z1
  clear hP hS hI z0 z1
  have HB0 : Hid (Below w.heap.size w (w.alloc (.cells #[.slice ap np cp, .slice ax nx cx, .slice ai ni ci] 25))) := below_new (Below.refl _ _)
  have KP : Hid (Bk (w.alloc (.cells #[.slice ap np cp, .slice ax nx cx, .slice ai ni ci] 25)) w.heap.size 25 [.slice ap np cp, .slice ax nx cx, .slice ai ni ci]) := Bk.new w 25 [.slice ap np cp, .slice ax nx cx, .slice ai ni ci]
  go_enter Tryd.func7, Tryd.ntmps7
  go_wp2_with fail
  refine (szStringS_at S ap np cp x.keys left _ (HP.out.below HB0.out) HZ0.out h0 h1).mono ?_
  generalize w.alloc (.cells #[.slice ap np cp, .slice ax nx cx, .slice ai ni ci] 25) = W at *
  rintro e w1 ⟨⟨y, rfl, hy1, hy2, hy3⟩, hb1⟩
  have HB1 := hid (HB0.out.trans (hb1.mono HB0.out.size))
  have KP1 := hid (KP.out.below hb1)
  have HY := hid hy3
  clear hb1 KP HB0 hy3
  by_cases hneg : y < 0
  · go_wp2
    go_ret
    exact ⟨⟨_, rfl, by omega, by omega, fun h => by omega⟩, HB1.out⟩
  · have c1 := KP1.out.cell (j := 1) rfl
    go_wp2_with fail
    refine (szStringS_at S ax nx cx x.vals y _ (HS.out.below HB1.out) HZ1.out (by omega) (by omega)).mono ?_
    rintro e w2 ⟨⟨z, rfl, hz1, hz2, hz3⟩, hb2⟩
    have HB2 := hid (HB1.out.trans (hb2.mono HB1.out.size))
    have KP2 := hid (KP1.out.below hb2)
    have HZ := hid hz3
    clear hb2 KP1 HB1 hz3 c1
    by_cases hneg2 : z < 0
    · go_wp2
      go_ret
      exact ⟨⟨_, rfl, by omega, by omega, fun h => by omega⟩, HB2.out⟩
    · have c2 := KP2.out.cell (j := 2) rfl
      go_wp2_with fail
      refine (szIntS_at ai ni ci z _ (by omega) (by omega) (by omega)).mono ?_
      rintro e w3 ⟨⟨v, rfl, hv1, hv2, hv3⟩, hb3⟩
      have HB3 := hid (HB2.out.trans (hb3.mono HB2.out.size))
      have HV := hid hv3
      clear hb3 KP2 HB2 hv3 c2
      by_cases hneg3 : v < 0
      · go_wp2
        go_ret
        exact ⟨⟨_, rfl, by omega, by omega, fun h => by omega⟩, HB3.out⟩
      · go_wp2
        go_ret
        exact ⟨⟨_, rfl, by omega, by omega, fun _ => ⟨HY.out (by omega), HZ.out (by omega), HV.out (by omega)⟩⟩, HB3.out⟩
set_option maxHeartbeats 2000000 in
theorem eqPage_any (S S' : Nat → Prop) (ap ax ai ap' ax' ai' : Option Addr) (np cp nx cx ni ci np' cp' nx' cx' ni' ci' : Nat) (x y : PG) (w : World)
    (hP : Sr w S (.slice ap np cp) x.keys) (hS : Sr w S (.slice ax nx cx) x.vals) (hI : Ir w S (.slice ai ni ci) x.kids) (hP' : Sr w S' (.slice ap' np' cp') y.keys) (hS' : Sr w S' (.slice ax' nx' cx') y.vals) (hI' : Ir w S' (.slice ai' ni' ci') y.kids) :
    Calls Tryd.prog 12 #[.agg #[.slice ap np cp, .slice ax nx cx, .slice ai ni ci], .agg #[.slice ap' np' cp', .slice ax' nx' cx', .slice ai' ni' ci']] w fun e w' => e = .returned (.bool (decide (x = y))) ∧ Below w.heap.size w w' := by
  have HP := hid hP
  have HS := hid hS
  have HI := hid hI
  have HP' := hid hP'
  have HS' := hid hS'
  have HI' := hid hI'
  clear hP hS hI hP' hS' hI'
  have HB0 : Hid (Below w.heap.size w ((w.alloc (.cells #[.slice ap np cp, .slice ax nx cx, .slice ai ni ci] 30)).alloc (.cells #[.slice ap' np' cp', .slice ax' nx' cx', .slice ai' ni' ci'] 30))) := below_new (below_new (Below.refl _ _))
  have KA : Hid (Bk ((w.alloc (.cells #[.slice ap np cp, .slice ax nx cx, .slice ai ni ci] 30)).alloc (.cells #[.slice ap' np' cp', .slice ax' nx' cx', .slice ai' ni' ci'] 30)) w.heap.size 30 [.slice ap np cp, .slice ax nx cx, .slice ai ni ci]) := (Bk.new w 30 [.slice ap np cp, .slice ax nx cx, .slice ai ni ci]).alloc _
  have KB : Hid (Bk ((w.alloc (.cells #[.slice ap np cp, .slice ax nx cx, .slice ai ni ci] 30)).alloc (.cells #[.slice ap' np' cp', .slice ax' nx' cx', .slice ai' ni' ci'] 30)) (w.heap.size + 1) 30 [.slice ap' np' cp', .slice ax' nx' cx', .slice ai' ni' ci']) := by
    have := Bk.new (w.alloc (.cells #[.slice ap np cp, .slice ax nx cx, .slice ai ni ci] 30)) 30 [.slice ap' np' cp', .slice ax' nx' cx', .slice ai' ni' ci']
    show Bk _ _ _ _
    simpa using this
  go_enter Tryd.func12, Tryd.ntmps12
  go_wp2_with fail
  refine (eqStringS_at S S' ap ap' np np' cp cp' x.keys y.keys _ (HP.out.below HB0.out) (HP'.out.below HB0.out)).mono ?_
  generalize (w.alloc (.cells #[.slice ap np cp, .slice ax nx cx, .slice ai ni ci] 30)).alloc (.cells #[.slice ap' np' cp', .slice ax' nx' cx', .slice ai' ni' ci'] 30) = W at *
  rintro e w1 ⟨rfl, hb1⟩
  have HB1 := hid (HB0.out.trans (hb1.mono HB0.out.size))
  have KA1 := hid (KA.out.below hb1)
  have KB1 := hid (KB.out.below hb1)
  clear hb1 HB0 KA KB
  by_cases h1 : x.keys = y.keys
  · rw [decide_eq_true h1]
    have HH1 := hid h1
    clear h1
    have c0 := KA1.out.cell (j := 1) rfl
    have d0 := KB1.out.cell (j := 1) rfl
    go_wp2_with fail
    refine (eqStringS_at S S' ax ax' nx nx' cx cx' x.vals y.vals _ (HS.out.below HB1.out) (HS'.out.below HB1.out)).mono ?_
    rintro e w2 ⟨rfl, hb2⟩
    have HB2 := hid (HB1.out.trans (hb2.mono HB1.out.size))
    have KA2 := hid (KA1.out.below hb2)
    have KB2 := hid (KB1.out.below hb2)
    clear hb2 HB1 KA1 KB1 c0 d0
    by_cases h2 : x.vals = y.vals
    · rw [decide_eq_true h2]
      have HH2 := hid h2
      clear h2
      have c0 := KA2.out.cell (j := 2) rfl
      have d0 := KB2.out.cell (j := 2) rfl
      go_wp2_with fail
      refine (eqIntS_at S S' ai ai' ni ni' ci ci' x.kids y.kids _ (HI.out.below HB2.out) (HI'.out.below HB2.out)).mono ?_
      rintro e w3 ⟨rfl, hb3⟩
      have HB3 := hid (HB2.out.trans (hb3.mono HB2.out.size))
      clear hb3 HB2 KA2 KB2 c0 d0
      by_cases h3 : x.kids = y.kids
      · rw [decide_eq_true h3]
        have HF : Hid (decide (x = y) = true) := by
          show _ = _
          rw [decide_eq_true_eq]
          have e1 := HH1.out
          have e2 := HH2.out
          cases x; cases y; simp_all
        clear h3
        go_wp2
        go_ret
        exact ⟨by rw [HF.out]; rfl, HB3.out⟩
      · rw [decide_eq_false h3]
        have HF : Hid (decide (x = y) = false) := by
          show _ = _
          rw [decide_eq_false_iff_not]
          rintro rfl
          exact h3 rfl
        clear h3
        go_wp2
        go_ret
        exact ⟨by rw [HF.out]; rfl, HB3.out⟩
    · rw [decide_eq_false h2]
      have HF : Hid (decide (x = y) = false) := by
        show _ = _
        rw [decide_eq_false_iff_not]
        rintro rfl
        exact h2 rfl
      clear h2
      go_wp2
      go_ret
      exact ⟨by rw [HF.out]; rfl, HB2.out⟩
  · rw [decide_eq_false h1]
    have HF : Hid (decide (x = y) = false) := by
      show _ = _
      rw [decide_eq_false_iff_not]
      rintro rfl
      exact h1 rfl
    clear h1
    go_wp2
    go_ret
    exact ⟨by rw [HF.out]; rfl, HB1.out⟩
end Go.Proofs.YtpgogpphobafoaaDoor
/-
  What the law's helper markText does: it answers with one text for each number (for trees: greater numbers).
-/
namespace Go.Proofs.YtpgogpphobafoaaDoor
open Go.RowKit
theorem strOf_size (o : List Int) : (strOf o).size = o.length := by
  show (strOf o).data.size = o.length
  simp [strOf]
theorem rd_lit (w : World) (z : Int) (h0 : 0 ≤ z) (h1 : z ≤ 255) : Rd (w.alloc (.cells #[.int .u8 z] 5)) (some ⟨w.heap.size, 0, none⟩) 1 1 [z] := by
  have := rd_new w [z] (by simp) (fun i => by cases i <;> simp <;> omega)
  simpa [byteVals] using this
/-- The decimal digits of k ahead of acc. -/
def mtG : Nat → Nat → ByteArray → ByteArray
  | 0, _, acc => acc
  | f + 1, k, acc => if k = 0 then acc else mtG f (k / 10) (strOf [48 + ((k % 10 : Nat) : Int)] ++ acc)
theorem mtG_end (f : Nat) (acc : ByteArray) : mtG f 0 acc = acc := by cases f <;> simp [mtG]
theorem mtG_step (f k : Nat) (acc : ByteArray) (h : 0 < k) : mtG (f + 1) k acc = mtG f (k / 10) (strOf [48 + ((k % 10 : Nat) : Int)] ++ acc) := by
  simp [mtG]; omega
/-- The text for k. -/
def mt (k : Nat) : ByteArray := ⟨#[109]⟩ ++ mtG k k ⟨#[]⟩
set_option maxHeartbeats 4000000 in
theorem markText_any (k : Nat) (w : World) (h0 : 0 < k) (h1 : k ≤ 1152921504606846976) : Calls Tryd.prog 67 #[.int .i64 k] w fun e w' => e = .returned (.string (mt k)) ∧ Below w.heap.size w w' := by
  have h0' : ¬ (k : Int) ≤ 0 := by omega
  go_enter Tryd.func67, Tryd.ntmps67
  go_wp2_with fail
  go_loopw [0, 3] (fun x s wr => ∃ (j f : Nat) (acc : ByteArray), x = .int .i64 j ∧ s = .string acc ∧ j ≤ f ∧ Hid (mtG f j acc = mtG k k ⟨#[]⟩) ∧ j + acc.size ≤ k ∧ Hid (Below w.heap.size w wr)) (fun x _ _ => (intOf x).toNat)
  case atStart => exact ⟨k, k, ⟨#[]⟩, rfl, rfl, Nat.le_refl _, rfl, Nat.le_refl _, Below.refl _ _⟩
  case round =>
    obtain ⟨j, f, acc, rfl, rfl, hjf, HM, hsz, HB⟩ := hrel
    rcases Nat.eq_zero_or_pos j with rfl | hj
    · rw [mtG_end] at HM
      have hcat : (⟨#[109]⟩ : ByteArray).size = 1 := rfl
      have HE : Hid (⟨#[109]⟩ ++ acc = mt k) := by show ⟨#[109]⟩ ++ acc = mt k; rw [HM.out]; rfl
      go_wp2
      go_ret
      exact ⟨by rw [HE.out]; rfl, HB.out⟩
    · obtain ⟨f, rfl⟩ : ∃ g, f = g + 1 := ⟨f - 1, by omega⟩
      rw [mtG_step f j acc hj] at HM
      have hj' : (0 : Int) < (j : Int) := by omega
      obtain ⟨z, hz⟩ : ∃ z : Nat, z = j % 10 := ⟨_, rfl⟩
      obtain ⟨q, hq⟩ : ∃ q : Nat, q = j / 10 := ⟨_, rfl⟩
      rw [← hz, ← hq] at HM
      have hz1 : z < 10 := by omega
      have hmod : (j : Int).tmod 10 = (z : Int) := by rw [Int.tmod_eq_emod_of_nonneg (by omega)]; omega
      have hdiv : (j : Int).tdiv 10 = (q : Int) := by rw [Int.tdiv_eq_ediv_of_nonneg (by omega)]; omega
      have hqj : q < j := by omega
      have hq2 : q + 1 ≤ j := by omega
      clear hz hq
      have hst := run_str (rd_lit wr (48 + (z : Int)) (by omega) (by omega))
      have hts := strOf_size [48 + (z : Int)]
      simp only [List.length_cons, List.length_nil] at hts
      generalize strOf [48 + (z : Int)] = t at *
      go_wp2
      go_roundw
      case rel => exact ⟨q, f, t ++ acc, by go_num, rfl, by omega, HM, by rw [ByteArray.size_append]; omega, HB.out.alloc HB.out.size _⟩
      case measure => simp [intOf]; omega
theorem markText_at (k : Nat) (z : Int) (hz : z = k) (w : World) (h0 : 0 < k) (h1 : k ≤ 1152921504606846976) : Calls Tryd.prog 67 #[.int .i64 z] w fun e w' => e = .returned (.string (mt k)) ∧ Below w.heap.size w w' := by
  subst hz
  exact markText_any k w h0 h1
end Go.Proofs.YtpgogpphobafoaaDoor
/-
  Writing marks into slices: texts into cells of texts, numbers into cells of numbers; nothing else turns.
-/
namespace Go.Proofs.YtpgogpphobafoaaDoor
open Go.RowKit
set_option linter.unusedVariables false
def isStr (u : Value) : Prop := ∃ s, u = .string s
def isInt (u : Value) : Prop := ∃ i, u = .int .i64 i
/-- The cell is the same, or both are texts, or both are numbers. -/
def simV (x y : Value) : Prop := x = y ∨ (isStr x ∧ isStr y) ∨ (isInt x ∧ isInt y)
theorem simV.trans {x y z : Value} (h : simV x y) (k : simV y z) : simV x z := by
  rcases h with rfl | ⟨h1, h2⟩ | ⟨h1, h2⟩
  · exact k
  · rcases k with rfl | ⟨k1, k2⟩ | ⟨k1, k2⟩
    · exact .inr (.inl ⟨h1, h2⟩)
    · exact .inr (.inl ⟨h1, k2⟩)
    · obtain ⟨s, rfl⟩ := h2; obtain ⟨i, hi⟩ := k1; cases hi
  · rcases k with rfl | ⟨k1, k2⟩ | ⟨k1, k2⟩
    · exact .inr (.inr ⟨h1, h2⟩)
    · obtain ⟨s, rfl⟩ := h2; obtain ⟨i, hi⟩ := k1; cases hi
    · exact .inr (.inr ⟨h1, k2⟩)
def Kind (K : Value → Prop) : Prop := ∀ x y, K x → simV x y → K y
theorem kind_str : Kind isStr := by
  rintro x y hx (rfl | ⟨_, h⟩ | ⟨h, _⟩)
  · exact hx
  · exact h
  · obtain ⟨s, rfl⟩ := hx; obtain ⟨i, hi⟩ := h; cases hi
theorem kind_int : Kind isInt := by
  rintro x y hx (rfl | ⟨h, _⟩ | ⟨_, h⟩)
  · exact hx
  · obtain ⟨s, rfl⟩ := hx; obtain ⟨i, hi⟩ := h; cases hi
  · exact h
theorem kind_slice (v : Value) (hv : ∃ a n c, v = .slice a n c) : Kind (fun u => u = v) := by
  obtain ⟨a, n, c, rfl⟩ := hv
  rintro x y rfl (rfl | ⟨h, _⟩ | ⟨h, _⟩)
  · rfl
  · obtain ⟨s, hs⟩ := h; cases hs
  · obtain ⟨s, hs⟩ := h; cases hs
/-- From w to w' only rows of S have turned, and of these each cell keeps its kind. -/
structure Mk (S : Nat → Prop) (w w' : World) : Prop where
  only : Only S w w'
  sim : ∀ b T xs, Bk w b T xs → S b → ∃ ys, Bk w' b T ys ∧ ∀ (j : Nat) u, xs[j]? = some u → ∃ u', ys[j]? = some u' ∧ simV u u'
theorem Mk.refl (S : Nat → Prop) (w : World) : Mk S w w := ⟨Only.refl _ _, fun b T xs h _ => ⟨xs, h, fun j u hu => ⟨u, hu, .inl rfl⟩⟩⟩
theorem Mk.trans {S : Nat → Prop} {a b c : World} (h : Mk S a b) (k : Mk S b c) : Mk S a c := by
  refine ⟨h.only.trans k.only, fun g T xs hb hS => ?_⟩
  obtain ⟨ys, h1, h2⟩ := h.sim g T xs hb hS
  obtain ⟨zs, h3, h4⟩ := k.sim g T ys h1 hS
  refine ⟨zs, h3, fun j u hu => ?_⟩
  obtain ⟨u', h5, h6⟩ := h2 j u hu
  obtain ⟨u'', h7, h8⟩ := h4 j u' h5
  exact ⟨u'', h7, h6.trans h8⟩
theorem mk_below {S : Nat → Prop} {w w' : World} (h : Below w.heap.size w w') : Mk S w w' := ⟨only_of_below h S, fun b T xs hb _ => ⟨xs, hb.below h, fun j u hu => ⟨u, hu, .inl rfl⟩⟩⟩
theorem mk_set {S : Nat → Prop} {w : World} {b o : Nat} {T : TypeId} {xs : List Value} {x y : Value} (hb : Bk w b T xs) (hS : S b) (hx : xs[o]? = some x) (hs : simV x y) : Mk S w (w.setCell ⟨b, o, none⟩ y) := by
  refine ⟨only_set hS y, fun g T' zs hg _ => ?_⟩
  by_cases e : g = b
  · subst e
    refine ⟨_, hg.set o y, fun j u hu => ?_⟩
    have hz : some (Obj.cells xs.toArray T (0, 0)) = some (Obj.cells zs.toArray T' (0, 0)) := hb.symm.trans hg
    simp at hz
    obtain ⟨rfl, rfl⟩ := hz
    by_cases ej : j = o
    · subst ej
      rw [hx] at hu
      cases hu
      exact ⟨y, by simp [(List.getElem?_eq_some_iff.1 hx).1], hs⟩
    · exact ⟨u, by rw [List.getElem?_set_ne (Ne.symm ej)]; exact hu, .inl rfl⟩
  · exact ⟨zs, hg.setOther e _ _, fun j u hu => ⟨u, hu, .inl rfl⟩⟩
theorem Uf.bk {w : World} {b : Nat} (h : Uf w b) : ∃ T xs, Bk w b T xs := by
  obtain ⟨xs, T, h⟩ := h
  exact ⟨T, xs.toList, by show _ = _; simpa using h⟩
theorem Mk.uf {S : Nat → Prop} {w w' : World} (m : Mk S w w') {b : Nat} (h : Uf w b) : Uf w' b := by
  obtain ⟨T, xs, hb⟩ := h.bk
  by_cases hS : S b
  · obtain ⟨ys, h1, _⟩ := m.sim b T xs hb hS
    exact h1.uf
  · exact (hb.to m.only hS).uf
theorem bk_cell {w : World} {b o : Nat} {T : TypeId} {xs : List Value} {u : Value} (h : Bk w b T xs) (hc : w.cell? ⟨b, o, none⟩ = some u) : xs[o]? = some u := by
  have h' : w.heap[b]? = some (.cells xs.toArray T (0, 0)) := h
  simpa [World.cell?, h'] using hc
theorem Mk.cell {S : Nat → Prop} {w w' : World} (m : Mk S w w') {b o : Nat} {u : Value} (hu : Uf w b) (hc : w.cell? ⟨b, o, none⟩ = some u) : ∃ u', w'.cell? ⟨b, o, none⟩ = some u' ∧ simV u u' := by
  obtain ⟨T, xs, hb⟩ := hu.bk
  have hx := bk_cell hb hc
  by_cases hS : S b
  · obtain ⟨ys, h1, h2⟩ := m.sim b T xs hb hS
    obtain ⟨u', h3, h4⟩ := h2 o u hx
    exact ⟨u', h1.cell h3, h4⟩
  · exact ⟨u, (hb.to m.only hS).cell hx, .inl rfl⟩
/-- The slice value v leads to n elements of m cells of the kind K, in a row of S that may be written. -/
def Kw (w : World) (S : Nat → Prop) (v : Value) (n m : Nat) (K : Value → Prop) : Prop :=
  ∃ a c, v = .slice a n c ∧ n ≤ c ∧ c ≤ 9223372036854775807 ∧ (0 < n → ∃ b off, a = some ⟨b, off, none⟩ ∧ S b ∧ Uf w b ∧ ∀ j, j < m → ∃ u, w.cell? ⟨b, off + j, none⟩ = some u ∧ K u)
theorem Kw.mk {S S' : Nat → Prop} {w w' : World} {v : Value} {n m : Nat} {K : Value → Prop} (h : Kw w S v n m K) (hm : Mk S' w w') (hK : Kind K) : Kw w' S v n m K := by
  obtain ⟨a, c, h1, h2, h3, h4⟩ := h
  refine ⟨a, c, h1, h2, h3, fun hn => ?_⟩
  obtain ⟨b, off, h5, h6, h7, h8⟩ := h4 hn
  refine ⟨b, off, h5, h6, hm.uf h7, fun j hj => ?_⟩
  obtain ⟨u, h9, h10⟩ := h8 j hj
  obtain ⟨u', h11, h12⟩ := hm.cell h7 h9
  exact ⟨u', h11, hK _ _ h10 h12⟩
theorem kw_of {w : World} {S S' : Nat → Prop} {v : Value} {n : Nat} {xs : List Value} {K : Value → Prop} (h : Rw w S v n xs) (hx : ∀ u ∈ xs, K u) (hS : ∀ b, S b → b < w.heap.size → S' b ∧ Uf w b) : Kw w S' v n xs.length K := by
  obtain ⟨a, c, h1, h2, h3, h4, hn, h5⟩ := h
  refine ⟨a, c, h1, h2, h3, fun hp => ?_⟩
  obtain ⟨b, off, h6, h7, h8, h9⟩ := h5 hp
  refine ⟨b, off, h6, (hS b h8 h7).1, (hS b h8 h7).2, fun j hj => ?_⟩
  exact ⟨xs[j], h9 j _ (by simp [hj]), hx _ (by simp)⟩
/-- Of the m cells from off on the first i are V's. -/
def Mi (w : World) (b off m i : Nat) (V : Nat → Value) (K : Value → Prop) : Prop := ∃ T xs, Bk w b T xs ∧ (∀ j, j < m → ∃ u, xs[off + j]? = some u ∧ K u) ∧ ∀ j, j < i → xs[off + j]? = some (V j)
theorem Mi.start {w : World} {b off m : Nat} {V : Nat → Value} {K : Value → Prop} (hu : Uf w b) (h : ∀ j, j < m → ∃ u, w.cell? ⟨b, off + j, none⟩ = some u ∧ K u) : Mi w b off m 0 V K := by
  obtain ⟨T, xs, hb⟩ := hu.bk
  refine ⟨T, xs, hb, fun j hj => ?_, fun j hj => absurd hj (Nat.not_lt_zero _)⟩
  obtain ⟨u, h1, h2⟩ := h j hj
  exact ⟨u, bk_cell hb h1, h2⟩
theorem Mi.below {w w' : World} {b off m i : Nat} {V : Nat → Value} {K : Value → Prop} (h : Mi w b off m i V K) (hb : Below w.heap.size w w') : Mi w' b off m i V K := by
  obtain ⟨T, xs, h1, h2, h3⟩ := h
  exact ⟨T, xs, h1.below hb, h2, h3⟩
theorem Mi.cell {w : World} {b off m i : Nat} {V : Nat → Value} {K : Value → Prop} (h : Mi w b off m i V K) {j : Nat} (hj : j < m) : (∃ u, w.cell? ⟨b, off + j, none⟩ = some u ∧ K u) ∧ w.frozen? ⟨b, off + j, none⟩ = false := by
  obtain ⟨T, xs, h1, h2, h3⟩ := h
  obtain ⟨u, h4, h5⟩ := h2 j hj
  exact ⟨⟨u, h1.cell h4, h5⟩, h1.free _⟩
theorem Mi.set {w : World} {b off m i : Nat} {V : Nat → Value} {K : Value → Prop} (h : Mi w b off m i V K) {o : Nat} (ho : o = off + i) (hi : i < m) (hK : K (V i)) : Mi (w.setCell ⟨b, o, none⟩ (V i)) b off m (i + 1) V K := by
  subst ho
  obtain ⟨T, xs, h1, h2, h3⟩ := h
  refine ⟨T, _, h1.set _ _, fun j hj => ?_, fun j hj => ?_⟩
  · obtain ⟨u, h4, h5⟩ := h2 j hj
    by_cases e : j = i
    · subst e
      exact ⟨V j, by simp [(List.getElem?_eq_some_iff.1 h4).1], hK⟩
    · exact ⟨u, by rw [List.getElem?_set_ne (by omega)]; exact h4, h5⟩
  · by_cases e : j = i
    · subst e
      obtain ⟨u, h4, _⟩ := h2 j hi
      simp [(List.getElem?_eq_some_iff.1 h4).1]
    · rw [List.getElem?_set_ne (by omega)]
      exact h3 j (by omega)
end Go.Proofs.YtpgogpphobafoaaDoor
/-
  The law's helpers that write marks into slices: of pairs, of texts, of numbers.
-/
namespace Go.Proofs.YtpgogpphobafoaaDoor
open Go.RowKit
def mV (k : Nat) (j : Nat) : Value := .string (mt (k + j))
def mI (k : Nat) (j : Nat) : Value := .int .i64 ((k + j : Nat) : Int)
theorem mi_mk {S : Nat → Prop} {w : World} {b off m i : Nat} {V : Nat → Value} {K : Value → Prop} (h : Mi w b off m i V K) (hS : S b) {o : Nat} (ho : o = off + i) (hi : i < m) (hs : ∀ u, K u → simV u (V i)) : Mk S w (w.setCell ⟨b, o, none⟩ (V i)) := by
  subst ho
  obtain ⟨T, xs, h1, h2, h3⟩ := h
  obtain ⟨u, h4, h5⟩ := h2 i hi
  exact mk_set h1 hS h4 (hs u h5)
theorem sim_mV (k i : Nat) : ∀ u, isStr u → simV u (mV k i) := fun _ hu => .inr (.inl ⟨hu, _, rfl⟩)
theorem sim_mI (k i : Nat) : ∀ u, isInt u → simV u (mI k i) := fun _ hu => .inr (.inr ⟨hu, _, rfl⟩)
/-- What comes of writing marks into the m cells of a slice. -/
def Marked (S : Nat → Prop) (w : World) (a : Option Addr) (n m : Nat) (V : Nat → Value) (K : Value → Prop) (w' : World) : Prop := Mk S w w' ∧ (0 < n → ∃ b off, a = some ⟨b, off, none⟩ ∧ S b ∧ Mi w' b off m m V K)
set_option maxHeartbeats 4000000 in
theorem markStringS_any (S : Nat → Prop) (a : Option Addr) (n c k : Nat) (w : World) (h : Kw w S (.slice a n c) n n isStr) (hn : n ≤ 1048576) (hk0 : 0 < k) (hk : k ≤ 576460752303423488) :
    Calls Tryd.prog 42 #[.slice a n c, .int .i64 k] w fun e w' => e = .returned (.int .i64 ((k + n : Nat) : Int)) ∧ Marked S w a n n (mV k) isStr w' := by
  obtain ⟨a', c', h1, h2, h3, h4⟩ := h
  cases h1
  rcases Nat.eq_zero_or_pos n with hz | hp
  · clear h4
    subst hz
    go_enter Tryd.func42, Tryd.ntmps42
    go_wp2_with fail
    go_loop [1, 5] (fun x i => x = .int .i64 k ∧ i = .int .i64 (0 : Nat)) (fun _ _ => 0)
    case atStart => exact ⟨rfl, rfl⟩
    case round =>
      obtain ⟨rfl, rfl⟩ := hrel
      go_wp2
      go_ret
      exact ⟨rfl, Mk.refl _ _, fun h => absurd h (Nat.lt_irrefl _)⟩
  · obtain ⟨b, off, rfl, hS, hu, hc⟩ := h4 hp
    have HI : Hid (Mi w b off n 0 (mV k) isStr) := Mi.start hu hc
    have HS := hid hS
    clear h4 hc hu hS
    go_enter Tryd.func42, Tryd.ntmps42
    go_wp2_with fail
    go_loopw [1, 5] (fun x i wr => ∃ j : Nat, x = .int .i64 ((k + j : Nat) : Int) ∧ i = .int .i64 j ∧ j ≤ n ∧ Hid (Mi wr b off n j (mV k) isStr) ∧ Hid (Mk S w wr)) (fun _ i _ => n - (intOf i).toNat)
    case atStart => exact ⟨0, rfl, rfl, Nat.zero_le _, HI.out, Mk.refl _ _⟩
    case round =>
      obtain ⟨j, rfl, rfl, hj, HX, HG⟩ := hrel
      by_cases hlt : j < n
      · have hlt' : (j : Int) < (n : Int) := by omega
        have hj0 : (0 : Int) ≤ (j : Int) := by omega
        generalize hkz : k + j = kz
        have hkz0 : 0 < kz := by omega
        have hkz1 : kz ≤ 576460754400575488 := by omega
        have HK := hid hkz
        clear hkz
        go_wp2_with fail
        refine (markText_at kz (kz : Int) rfl wr hkz0 (by omega)).mono ?_
        rintro e w1 ⟨rfl, hb1⟩
        have HX1 := hid (HX.out.below hb1)
        have HG1 := hid (HG.out.trans (mk_below hb1))
        clear hb1 HX HG
        obtain ⟨⟨u0, c0, s0⟩, f0⟩ := HX1.out.cell hlt
        obtain ⟨u0, rfl⟩ := s0
        have HX2 : Hid (Mi (w1.setCell ⟨b, off + j, none⟩ (.string (mt kz))) b off n (j + 1) (mV k) isStr) := by rw [← HK.out]; exact HX1.out.set rfl hlt ⟨_, rfl⟩
        have HG2 : Hid (Mk S w (w1.setCell ⟨b, off + j, none⟩ (.string (mt kz)))) := by rw [← HK.out]; exact HG1.out.trans (mi_mk HX1.out HS.out rfl hlt (sim_mV k j))
        clear HX1 HG1
        generalize mt kz = m0 at *
        go_wp2
        go_roundw
        case rel => exact ⟨j + 1, by rw [show k + (j + 1) = kz + 1 by have := HK.out; omega]; go_num, by go_num, by omega, HX2.out, HG2.out⟩
        case measure => simp [intOf]; omega
      · have hlt' : ¬ (j : Int) < (n : Int) := by omega
        have hjn : j = n := by omega
        subst hjn
        generalize hkz : k + j = kz
        go_wp2
        go_ret
        exact ⟨rfl, HG.out, fun _ => ⟨b, off, rfl, HS.out, HX.out⟩⟩
set_option maxHeartbeats 4000000 in
theorem markIntS_any (S : Nat → Prop) (a : Option Addr) (n c k : Nat) (w : World) (h : Kw w S (.slice a n c) n n isInt) (hn : n ≤ 1048576) (hk0 : 0 < k) (hk : k ≤ 576460752303423488) :
    Calls Tryd.prog 43 #[.slice a n c, .int .i64 k] w fun e w' => e = .returned (.int .i64 ((k + n : Nat) : Int)) ∧ Marked S w a n n (mI k) isInt w' := by
  obtain ⟨a', c', h1, h2, h3, h4⟩ := h
  cases h1
  rcases Nat.eq_zero_or_pos n with hz | hp
  · clear h4
    subst hz
    go_enter Tryd.func43, Tryd.ntmps43
    go_wp2_with fail
    go_loop [1, 5] (fun x i => x = .int .i64 k ∧ i = .int .i64 (0 : Nat)) (fun _ _ => 0)
    case atStart => exact ⟨rfl, rfl⟩
    case round =>
      obtain ⟨rfl, rfl⟩ := hrel
      go_wp2
      go_ret
      exact ⟨rfl, Mk.refl _ _, fun h => absurd h (Nat.lt_irrefl _)⟩
  · obtain ⟨b, off, rfl, hS, hu, hc⟩ := h4 hp
    have HI : Hid (Mi w b off n 0 (mI k) isInt) := Mi.start hu hc
    have HS := hid hS
    clear h4 hc hu hS
    go_enter Tryd.func43, Tryd.ntmps43
    go_wp2_with fail
    go_loopw [1, 5] (fun x i wr => ∃ j : Nat, x = .int .i64 ((k + j : Nat) : Int) ∧ i = .int .i64 j ∧ j ≤ n ∧ Hid (Mi wr b off n j (mI k) isInt) ∧ Hid (Mk S w wr)) (fun _ i _ => n - (intOf i).toNat)
    case atStart => exact ⟨0, rfl, rfl, Nat.zero_le _, HI.out, Mk.refl _ _⟩
    case round =>
      obtain ⟨j, rfl, rfl, hj, HX, HG⟩ := hrel
      by_cases hlt : j < n
      · have hlt' : (j : Int) < (n : Int) := by omega
        have hj0 : (0 : Int) ≤ (j : Int) := by omega
        generalize hkz : k + j = kz
        have hkz0 : 0 < kz := by omega
        have hkz1 : kz ≤ 576460754400575488 := by omega
        have HK := hid hkz
        clear hkz
        obtain ⟨⟨u0, c0, s0⟩, f0⟩ := HX.out.cell hlt
        obtain ⟨u0, rfl⟩ := s0
        have HX2 : Hid (Mi (wr.setCell ⟨b, off + j, none⟩ (.int .i64 kz)) b off n (j + 1) (mI k) isInt) := by rw [← HK.out]; exact HX.out.set rfl hlt ⟨_, rfl⟩
        have HG2 : Hid (Mk S w (wr.setCell ⟨b, off + j, none⟩ (.int .i64 kz))) := by rw [← HK.out]; exact HG.out.trans (mi_mk HX.out HS.out rfl hlt (sim_mI k j))
        clear HX HG
        go_wp2
        go_roundw
        case rel => exact ⟨j + 1, by rw [show k + (j + 1) = kz + 1 by have := HK.out; omega]; go_num, by go_num, by omega, HX2.out, HG2.out⟩
        case measure => simp [intOf]; omega
      · have hlt' : ¬ (j : Int) < (n : Int) := by omega
        have hjn : j = n := by omega
        subst hjn
        generalize hkz : k + j = kz
        go_wp2
        go_ret
        exact ⟨rfl, HG.out, fun _ => ⟨b, off, rfl, HS.out, HX.out⟩⟩
end Go.Proofs.YtpgogpphobafoaaDoor
/-
  The law's helper that looks for marks in a slice of pairs: it finds them all.
-/
namespace Go.Proofs.YtpgogpphobafoaaDoor
open Go.RowKit
theorem kc1 {u v : World} {a0 : Addr} {x0 : Value} (h : KC u v [(a0, x0)]) : v.cell? a0 = some x0 ∧ KC u v [(a0, x0)] := ⟨h.at (by simp), h⟩
theorem kc0_1 {u : World} {a0 : Addr} {x0 : Value} (h0 : u.cell? a0 = some x0) : KC u u [(a0, x0)] := ⟨fun p hp => by simp at hp; rcases hp with rfl; assumption, Below.refl _ _⟩
theorem kc1c {u v v' : World} {a0 : Addr} {x0 : Value} (k : Below v.heap.size v v') (h : v.cell? a0 = some x0 ∧ KC u v [(a0, x0)]) : v'.cell? a0 = some x0 ∧ KC u v' [(a0, x0)] := kc1 (KC.call h.2 k)
/-- The marks lie there. -/
def Lies (w : World) (a : Option Addr) (n m : Nat) (V : Nat → Value) : Prop := 0 < n → ∃ b off, a = some ⟨b, off, none⟩ ∧ b < w.heap.size ∧ ∀ j, j < m → w.cell? ⟨b, off + j, none⟩ = some (V j)
theorem Lies.below {w w' : World} {a : Option Addr} {n m : Nat} {V : Nat → Value} (h : Lies w a n m V) (hb : Below w.heap.size w w') : Lies w' a n m V := by
  intro hn
  obtain ⟨b, off, h1, h2, h3⟩ := h hn
  exact ⟨b, off, h1, Nat.lt_of_lt_of_le h2 hb.size, fun j hj => by rw [hb.cell (p := ⟨b, off + j, none⟩) h2]; exact h3 j hj⟩
theorem Marked.lies {S : Nat → Prop} {w w' : World} {a : Option Addr} {n m : Nat} {V : Nat → Value} {K : Value → Prop} (h : Marked S w a n m V K w') : Lies w' a n m V := by
  intro hn
  obtain ⟨b, off, h1, _, T, xs, h2, _, h3⟩ := h.2 hn
  exact ⟨b, off, h1, h2.lt, fun j hj => h2.cell (h3 j hj)⟩
end Go.Proofs.YtpgogpphobafoaaDoor
/-
  The law's helpers that look whether marks are still there, in rows of strings and of numbers.
-/
namespace Go.Proofs.YtpgogpphobafoaaDoor
open Go.RowKit
set_option linter.unusedVariables false
set_option maxHeartbeats 2000000 in
theorem heldStringS_any (a : Option Addr) (n c k : Nat) (w : World) (h : Lies w a n n (mV k)) (hc : n ≤ c) (hn : n ≤ 1048576) (hk0 : 0 < k) (hk : k ≤ 576460752303423488) :
    Calls Tryd.prog 49 #[.slice a n c, .int .i64 k] w fun e w' => e = .returned (.int .i64 ((k + n : Nat) : Int)) ∧ Below w.heap.size w w' := by
  have H0 := hid h
  clear h
  go_enter Tryd.func49, Tryd.ntmps49
  go_wp2_with fail
  go_loopw [1, 5] (fun x i wr => ∃ j : Nat, x = .int .i64 ((k + j : Nat) : Int) ∧ i = .int .i64 j ∧ j ≤ n ∧ Hid (Below w.heap.size w wr)) (fun _ i _ => n - (intOf i).toNat)
  case atStart => exact ⟨0, rfl, rfl, Nat.zero_le _, Below.refl _ _⟩
  case round =>
    obtain ⟨j, rfl, rfl, hj, HB⟩ := hrel
    by_cases hlt : j < n
    · have hlt' : (j : Int) < (n : Int) := by omega
      have hj0 : (0 : Int) ≤ (j : Int) := by omega
      obtain ⟨b, off, ha, hbl, hcell⟩ := (H0.out.below HB.out) (by omega)
      subst ha
      have c0 := hcell j (by omega)
      simp only [mV] at c0
      have HT1 := hid (fun w => markText_at (k + j) ((k + j : Nat) : Int) rfl w (by omega) (by omega))
      clear hcell
      generalize mt (k + j) = m1 at *
      generalize hkz : k + j = kz at *
      have hkz1 : kz ≤ 576460754400575488 := by omega
      have HK := hid hkz
      have T1 := hid (kc0_1 c0)
      clear hkz
      go_wp2_with fail
      go_region_held3 (fun v => v.cell? ⟨b, off + j, none⟩ = some (.string m1) ∧ KC wr v [(⟨b, off + j, none⟩, .string m1)])
        (first | assumption | exact kc1 (T1.out.call (below_drew _)) | exact kc1c hbC (by assumption))
        (first | (go_at_call 67; refine (HT1.out _).mono ?_; rintro e w1 ⟨rfl, hbC⟩))
      rename_i hS
      have B1 := hid (Below.then' HB.out hS.2.bel (Nat.le_refl _))
      clear hS c0 T1 HT1 hbC
      go_wp2
      go_roundw
      case rel => exact ⟨j + 1, by rw [show k + (j + 1) = kz + 1 by have := HK.out; omega]; go_num, by go_num, by omega, B1.out⟩
      case measure => simp [intOf]; omega
    · have hlt' : ¬ (j : Int) < (n : Int) := by omega
      have hjn : j = n := by omega
      subst hjn
      have HK : Hid ((k : Int) + (j : Int) = ((k + j : Nat) : Int)) := by show _ = _; omega
      generalize k + j = kz at *
      go_wp2
      go_ret
      exact ⟨by rw [HK.out]; rfl, HB.out⟩
set_option maxHeartbeats 2000000 in
theorem heldIntS_any (a : Option Addr) (n c k : Nat) (w : World) (h : Lies w a n n (mI k)) (hc : n ≤ c) (hn : n ≤ 1048576) (hk0 : 0 < k) (hk : k ≤ 576460752303423488) :
    Calls Tryd.prog 50 #[.slice a n c, .int .i64 k] w fun e w' => e = .returned (.int .i64 ((k + n : Nat) : Int)) ∧ w' = w := by
  have H0 := hid h
  clear h
  go_enter Tryd.func50, Tryd.ntmps50
  go_wp2_with fail
  go_loop [1, 5] (fun x i => ∃ j : Nat, x = .int .i64 ((k + j : Nat) : Int) ∧ i = .int .i64 j ∧ j ≤ n) (fun _ i => n - (intOf i).toNat)
  case atStart => exact ⟨0, rfl, rfl, Nat.zero_le _⟩
  case round =>
    obtain ⟨j, rfl, rfl, hj⟩ := hrel
    by_cases hlt : j < n
    · have hlt' : (j : Int) < (n : Int) := by omega
      have hj0 : (0 : Int) ≤ (j : Int) := by omega
      obtain ⟨b, off, ha, hbl, hcell⟩ := H0.out (by omega)
      subst ha
      have c0 := hcell j (by omega)
      simp only [mI] at c0
      clear hcell
      generalize hkz : k + j = kz at *
      have hkz1 : kz ≤ 576460754400575488 := by omega
      have HK := hid hkz
      clear hkz
      go_wp2
      go_round
      case rel => exact ⟨j + 1, by rw [show k + (j + 1) = kz + 1 by have := HK.out; omega]; go_num, by go_num, by omega⟩
      case measure => simp [intOf]; omega
    · have hlt' : ¬ (j : Int) < (n : Int) := by omega
      have hjn : j = n := by omega
      subst hjn
      have HK : Hid ((k : Int) + (j : Int) = ((k + j : Nat) : Int)) := by show _ = _; omega
      generalize k + j = kz at *
      go_wp2
      go_ret
      exact ⟨by rw [HK.out]; rfl, rfl⟩
end Go.Proofs.YtpgogpphobafoaaDoor
/-
  The law's helpers that write marks into a page and look whether they are still there.
-/
namespace Go.Proofs.YtpgogpphobafoaaDoor
open Go.RowKit
theorem kw_ownP {w : World} {base : Nat} {e : TypeId} {size : Nat} {v : Value} {n : Nat} {xs : List Value} {K : Value → Prop} (h : w.ownsRow base e size v n xs) (hx : ∀ u ∈ xs, K u) : Kw w (fun y => v.ownBlock = some y) v n xs.length K :=
  kw_of (rw_own h (S := fun y => v.ownBlock = some y) (fun k hk _ _ => hk)) hx (fun b hb _ => ⟨hb, by
    rcases h.2 with ⟨rfl, _⟩ | ⟨g, cap, cur, rfl, _, h4, _⟩
    · cases hb
    · have e : g = b := by simpa [Value.ownBlock] using hb
      subst e
      exact ⟨_, _, h4⟩⟩)
theorem Lies.to {w w' : World} {R : Nat → Prop} {a : Option Addr} {n m c : Nat} {V : Nat → Value} (h : Lies w a n m V) (ho : Only R w w') (hR : ∀ y, (Value.slice a n c).ownBlock = some y → ¬ R y) : Lies w' a n m V := by
  intro hn
  obtain ⟨b, off, rfl, h4, h5⟩ := h hn
  exact ⟨b, off, rfl, Nat.lt_of_lt_of_le h4 ho.size, fun j hj => (World.cell?_of_block (w := w) (a := ⟨b, off + j, none⟩) (ho.block b h4 (hR b rfl))).trans (h5 j hj)⟩
theorem Mk.sliceU {S : Nat → Prop} {w w' : World} (hm : Mk S w w') {b o n c : Nat} {a : Option Addr} (hu : Uf w b) (hc : w.cell? ⟨b, o, none⟩ = some (.slice a n c)) : w'.cell? ⟨b, o, none⟩ = some (.slice a n c) := by
  obtain ⟨u, d, e⟩ := hm.cell hu hc
  rw [d, kind_slice _ ⟨a, n, c, rfl⟩ _ _ rfl e]
/-- A page whose rows are its own and apart. -/
structure PO (w : World) (kv vv iv : Value) (p : PG) : Prop where
  hk : w.ownsRow 0 9 1 kv p.keys.length (p.keys.map Value.string)
  hv : w.ownsRow 0 9 1 vv p.vals.length (p.vals.map Value.string)
  hi : w.ownsRow 0 3 1 iv p.kids.length (p.kids.map (Value.int .i64))
  ap : ∀ y, (kv.ownBlock = some y → vv.ownBlock ≠ some y ∧ iv.ownBlock ≠ some y) ∧ (vv.ownBlock = some y → iv.ownBlock ≠ some y)
def pbl (kv vv iv : Value) (y : Nat) : Prop := kv.ownBlock = some y ∨ vv.ownBlock = some y ∨ iv.ownBlock = some y
theorem PO.to {w w' : World} {R : Nat → Prop} {kv vv iv : Value} {p : PG} (h : PO w kv vv iv p) (ho : Only R w w') (hR : ∀ y, pbl kv vv iv y → ¬ R y) : PO w' kv vv iv p :=
  ⟨own_kept h.hk ho (fun k e => hR k (.inl e)), own_kept h.hv ho (fun k e => hR k (.inr (.inl e))), own_kept h.hi ho (fun k e => hR k (.inr (.inr e))), h.ap⟩
theorem PO.below {w w' : World} {kv vv iv : Value} {p : PG} (h : PO w kv vv iv p) (hb : Below w.heap.size w w') : PO w' kv vv iv p := h.to (only_of_below hb (fun _ => False)) (fun _ _ h => h)
theorem PO.pgr {w : World} {ka va ia : Option Addr} {kn kc vn vc jn ic : Nat} {p : PG} (h : PO w (.slice ka kn kc) (.slice va vn vc) (.slice ia jn ic) p) {S : Nat → Prop} (hS : ∀ y, pbl (.slice ka kn kc) (.slice va vn vc) (.slice ia jn ic) y → S y) : Pgr w S ka kn kc va vn vc ia jn ic p :=
  ⟨rw_own h.hk (fun k e _ _ => hS k (.inl e)), rw_own h.hv (fun k e _ _ => hS k (.inr (.inl e))), rw_own h.hi (fun k e _ _ => hS k (.inr (.inr e)))⟩
/-- The marks from k on stand in the page's rows. -/
structure PLie (w : World) (ka : Option Addr) (kn kc : Nat) (va : Option Addr) (vn vc : Nat) (ia : Option Addr) (jn ic : Nat) (k : Nat) : Prop where
  hk : Lies w ka kn kn (mV k)
  hv : Lies w va vn vn (mV (k + kn))
  hi : Lies w ia jn jn (mI (k + kn + vn))
  cap : kn ≤ kc ∧ vn ≤ vc ∧ jn ≤ ic
theorem PLie.below {w w' : World} {ka : Option Addr} {kn kc : Nat} {va : Option Addr} {vn vc : Nat} {ia : Option Addr} {jn ic k : Nat} (h : PLie w ka kn kc va vn vc ia jn ic k) (hb : Below w.heap.size w w') : PLie w' ka kn kc va vn vc ia jn ic k := ⟨h.hk.below hb, h.hv.below hb, h.hi.below hb, h.cap⟩
set_option maxHeartbeats 2000000 in
theorem markPage_any (S : Nat → Prop) (ka : Option Addr) (kn kc : Nat) (va : Option Addr) (vn vc : Nat) (ia : Option Addr) (jn ic k : Nat) (w : World) (h0 : Kw w S (.slice ka kn kc) kn kn isStr) (h1 : Kw w S (.slice va vn vc) vn vn isStr) (h2 : Kw w S (.slice ia jn ic) jn jn isInt) (b0 : kn ≤ 1048576) (b1 : vn ≤ 1048576) (b2 : jn ≤ 1048576) (hk0 : 0 < k) (hk : k ≤ 1000000) :
    Calls Tryd.prog 13 #[.agg #[.slice ka kn kc, .slice va vn vc, .slice ia jn ic], .int .i64 k] w fun e w' => e = .returned (.int .i64 ((k + kn + vn + jn : Nat) : Int)) ∧ Mk S w w' := by
  have hb0 := below_new (o := .cells #[.slice ka kn kc, .slice va vn vc, .slice ia jn ic] 30) (w := w) (Below.refl _ _)
  have K0 := hid (Bk.new w 30 [.slice ka kn kc, .slice va vn vc, .slice ia jn ic])
  have HM0 : Hid (Mk S w (w.alloc (.cells #[.slice ka kn kc, .slice va vn vc, .slice ia jn ic] 30))) := mk_below hb0
  have H0 := hid (h0.mk HM0.out kind_str)
  have H1 := hid (h1.mk HM0.out kind_str)
  have H2 := hid (h2.mk HM0.out kind_int)
  have HU : Hid (Uf (w.alloc (.cells #[.slice ka kn kc, .slice va vn vc, .slice ia jn ic] 30)) w.heap.size) := K0.out.uf
  have C1 := hid (K0.out.cell (j := 1) rfl)
  have C2 := hid (K0.out.cell (j := 2) rfl)
  clear hb0 h0 h1 h2
  have c0 := K0.out.cell (j := 0) rfl
  clear K0
  go_enter Tryd.func13, Tryd.ntmps13
  go_wp2_with fail
  refine (markStringS_any S ka kn kc k _ H0.out b0 hk0 (by omega)).mono ?_
  generalize w.alloc (.cells #[.slice ka kn kc, .slice va vn vc, .slice ia jn ic] 30) = U at *
  rintro e w1 ⟨rfl, hm1⟩
  have M1 := hid hm1.1
  have c1 := M1.out.sliceU HU.out C1.out
  clear hm1 c0
  generalize hq1 : k + kn = q1 at *
  have hq1b : q1 ≤ 3000000 := by omega
  have hq10 : 0 < q1 := by omega
  have HQ1 := hid hq1
  clear hq1
  go_wp2_with fail
  refine (markStringS_any S va vn vc q1 _ (H1.out.mk M1.out kind_str) b1 hq10 (by omega)).mono ?_
  rintro e w2 ⟨rfl, hm2⟩
  have M2 := hid (M1.out.trans hm2.1)
  have c2 := M2.out.sliceU HU.out C2.out
  clear hm2 c1
  generalize hq2 : q1 + vn = q2 at *
  have hq2b : q2 ≤ 5000000 := by omega
  have hq20 : 0 < q2 := by omega
  have HQ2 := hid hq2
  clear hq2
  go_wp2_with fail
  refine (markIntS_any S ia jn ic q2 _ (H2.out.mk M2.out kind_int) b2 hq20 (by omega)).mono ?_
  rintro e w3 ⟨rfl, hm3⟩
  have M3 := hid (HM0.out.trans (M2.out.trans hm3.1))
  clear hm3 c2
  go_wp2
  go_ret
  exact ⟨by rw [HQ1.out, HQ2.out]; rfl, M3.out⟩
set_option maxHeartbeats 2000000 in
theorem markPage_ex (ka : Option Addr) (kn kc : Nat) (va : Option Addr) (vn vc : Nat) (ia : Option Addr) (jn ic k : Nat) (p : PG) (w : World) (h : PO w (.slice ka kn kc) (.slice va vn vc) (.slice ia jn ic) p) (b0 : kn ≤ 1048576) (b1 : vn ≤ 1048576) (b2 : jn ≤ 1048576) (hk0 : 0 < k) (hk : k ≤ 1000000) :
    Calls Tryd.prog 13 #[.agg #[.slice ka kn kc, .slice va vn vc, .slice ia jn ic], .int .i64 k] w fun e w' => e = .returned (.int .i64 ((k + kn + vn + jn : Nat) : Int)) ∧ PLie w' ka kn kc va vn vc ia jn ic k ∧ Only (pbl (.slice ka kn kc) (.slice va vn vc) (.slice ia jn ic)) w w' := by
  have hb0 := below_new (o := .cells #[.slice ka kn kc, .slice va vn vc, .slice ia jn ic] 30) (w := w) (Below.refl _ _)
  have K0 := hid (Bk.new w 30 [.slice ka kn kc, .slice va vn vc, .slice ia jn ic])
  have P0 := hid (h.below hb0)
  have HN0 := hid (Rw.len (h.pgr (S := fun _ => True) (fun _ _ => trivial)).hk)
  have HN1 := hid (Rw.len (h.pgr (S := fun _ => True) (fun _ _ => trivial)).hv)
  have HN2 := hid (Rw.len (h.pgr (S := fun _ => True) (fun _ _ => trivial)).hi)
  have HNB : Hid (∀ y, pbl (.slice ka kn kc) (.slice va vn vc) (.slice ia jn ic) y → y ≠ w.heap.size) := by
    rintro y (e | e | e)
    · have := (World.ownsRow.lt h.hk y e).2; omega
    · have := (World.ownsRow.lt h.hv y e).2; omega
    · have := (World.ownsRow.lt h.hi y e).2; omega
  have HO0 : Hid (Only (pbl (.slice ka kn kc) (.slice va vn vc) (.slice ia jn ic)) w (w.alloc (.cells #[.slice ka kn kc, .slice va vn vc, .slice ia jn ic] 30))) := only_of_below hb0 _
  have KK : Hid (∀ v, PO v (.slice ka kn kc) (.slice va vn vc) (.slice ia jn ic) p → Kw v (fun y => (Value.slice ka kn kc).ownBlock = some y) (.slice ka kn kc) kn kn isStr) := by
    intro v hv
    have := kw_ownP (K := isStr) hv.hk (fun u hu => by simp at hu; obtain ⟨s, _, rfl⟩ := hu; exact ⟨s, rfl⟩)
    rw [List.length_map, ← HN0.out.1] at this
    exact this
  have KV : Hid (∀ v, v.ownsRow 0 9 1 (.slice va vn vc) p.vals.length (p.vals.map Value.string) → Kw v (fun y => (Value.slice va vn vc).ownBlock = some y) (.slice va vn vc) vn vn isStr) := by
    intro v hv
    have := kw_ownP (K := isStr) hv (fun u hu => by simp at hu; obtain ⟨s, _, rfl⟩ := hu; exact ⟨s, rfl⟩)
    rw [List.length_map, ← HN1.out.1] at this
    exact this
  have KI : Hid (∀ v, v.ownsRow 0 3 1 (.slice ia jn ic) p.kids.length (p.kids.map (Value.int .i64)) → Kw v (fun y => (Value.slice ia jn ic).ownBlock = some y) (.slice ia jn ic) jn jn isInt) := by
    intro v hv
    have := kw_ownP (K := isInt) hv (fun u hu => by simp at hu; obtain ⟨s, _, rfl⟩ := hu; exact ⟨s, rfl⟩)
    rw [List.length_map, ← HN2.out.1] at this
    exact this
  clear hb0 h
  have c0 := K0.out.cell (j := 0) rfl
  go_enter Tryd.func13, Tryd.ntmps13
  go_wp2_with fail
  refine (markStringS_any _ ka kn kc k _ (KK.out _ P0.out) b0 hk0 (by omega)).mono ?_
  generalize w.alloc (.cells #[.slice ka kn kc, .slice va vn vc, .slice ia jn ic] 30) = U at *
  rintro e w1 ⟨rfl, hm1⟩
  have L1 := hid hm1.lies
  have O1 := hid hm1.1.only
  have K1 := hid (K0.out.to O1.out (fun e => HNB.out _ (.inl e) rfl))
  have V1 := hid (own_kept P0.out.hv O1.out (fun y e e2 => ((P0.out.ap y).1 e2).1 e))
  have I1 := hid (own_kept P0.out.hi O1.out (fun y e e2 => ((P0.out.ap y).1 e2).2 e))
  clear hm1 c0 K0
  have c1 := K1.out.cell (j := 1) rfl
  generalize hq1 : k + kn = q1 at *
  have hq1b : q1 ≤ 3000000 := by omega
  have hq10 : 0 < q1 := by omega
  have HQ1 := hid hq1
  clear hq1
  go_wp2_with fail
  refine (markStringS_any _ va vn vc q1 _ (KV.out _ V1.out) b1 hq10 (by omega)).mono ?_
  rintro e w2 ⟨rfl, hm2⟩
  have L2 := hid hm2.lies
  have O2 := hid hm2.1.only
  have K2 := hid (K1.out.to O2.out (fun e => HNB.out _ (.inr (.inl e)) rfl))
  have I2 := hid (own_kept I1.out O2.out (fun y e e2 => (P0.out.ap y).2 e2 e))
  have LK2 := hid (L1.out.to (c := kc) O2.out (fun y e e2 => ((P0.out.ap y).1 e).1 e2))
  clear hm2 c1 K1
  have c2 := K2.out.cell (j := 2) rfl
  generalize hq2 : q1 + vn = q2 at *
  have hq2b : q2 ≤ 5000000 := by omega
  have hq20 : 0 < q2 := by omega
  have HQ2 := hid hq2
  clear hq2
  go_wp2_with fail
  refine (markIntS_any _ ia jn ic q2 _ (KI.out _ I2.out) b2 hq20 (by omega)).mono ?_
  rintro e w3 ⟨rfl, hm3⟩
  have L3 := hid hm3.lies
  have O3 := hid hm3.1.only
  have LK3 := hid (LK2.out.to (c := kc) O3.out (fun y e e2 => ((P0.out.ap y).1 e).2 e2))
  have LV3 := hid (L2.out.to (c := vc) O3.out (fun y e e2 => (P0.out.ap y).2 e e2))
  clear hm3 c2
  go_wp2
  go_ret
  refine ⟨by rw [HQ1.out, HQ2.out]; rfl, ⟨LK3.out, by rw [HQ1.out]; exact LV3.out, by rw [HQ1.out, HQ2.out]; exact L3.out, HN0.out.2.1, HN1.out.2.1, HN2.out.2.1⟩, ?_⟩
  exact HO0.out.trans (((O1.out.mono (fun y _ e => .inl e)).trans (O2.out.mono (fun y _ e => .inr (.inl e)))).trans (O3.out.mono (fun y _ e => .inr (.inr e))))
set_option maxHeartbeats 2000000 in
theorem heldPage_any (ka : Option Addr) (kn kc : Nat) (va : Option Addr) (vn vc : Nat) (ia : Option Addr) (jn ic k : Nat) (w : World) (h : PLie w ka kn kc va vn vc ia jn ic k) (b0 : kn ≤ 1048576) (b1 : vn ≤ 1048576) (b2 : jn ≤ 1048576) (hk0 : 0 < k) (hk : k ≤ 1000000) :
    Calls Tryd.prog 19 #[.agg #[.slice ka kn kc, .slice va vn vc, .slice ia jn ic], .int .i64 k] w fun e w' => e = .returned (.int .i64 ((k + kn + vn + jn : Nat) : Int)) ∧ Below w.heap.size w w' := by
  have hb0 := below_new (o := .cells #[.slice ka kn kc, .slice va vn vc, .slice ia jn ic] 30) (w := w) (Below.refl _ _)
  have K0 := hid (Bk.new w 30 [.slice ka kn kc, .slice va vn vc, .slice ia jn ic])
  have P0 := hid (h.below hb0)
  have B0 := hid hb0
  have hc := h.cap
  clear hb0 h
  have c0 := K0.out.cell (j := 0) rfl
  go_enter Tryd.func19, Tryd.ntmps19
  go_wp2_with fail
  refine (heldStringS_any ka kn kc k _ P0.out.hk (by omega) b0 hk0 (by omega)).mono ?_
  generalize w.alloc (.cells #[.slice ka kn kc, .slice va vn vc, .slice ia jn ic] 30) = U at *
  rintro e w1 ⟨rfl, hb1⟩
  have P1 := hid (P0.out.below hb1)
  have K1 := hid (K0.out.below hb1)
  have B1 := hid (B0.out.trans (hb1.mono B0.out.size))
  clear hb1 c0 K0 P0 B0
  have c1 := K1.out.cell (j := 1) rfl
  have HV := hid P1.out.hv
  have HI := hid P1.out.hi
  generalize hq1 : k + kn = q1 at *
  have hq1b : q1 ≤ 3000000 := by omega
  have hq10 : 0 < q1 := by omega
  have HQ1 := hid hq1
  clear hq1 P1
  go_wp2_with fail
  refine (heldStringS_any va vn vc q1 _ HV.out (by omega) b1 hq10 (by omega)).mono ?_
  rintro e w2 ⟨rfl, hb2⟩
  have K2 := hid (K1.out.below hb2)
  have B2 := hid (B1.out.trans (hb2.mono B1.out.size))
  have HI2 := hid (HI.out.below hb2)
  clear hb2 c1 K1 B1 HV HI
  have c2 := K2.out.cell (j := 2) rfl
  generalize hq2 : q1 + vn = q2 at *
  have hq2b : q2 ≤ 5000000 := by omega
  have hq20 : 0 < q2 := by omega
  have HQ2 := hid hq2
  clear hq2
  go_wp2_with fail
  refine (heldIntS_any ia jn ic q2 _ HI2.out (by omega) b2 hq20 (by omega)).mono ?_
  rintro e w3 ⟨rfl, hw3⟩
  subst hw3
  clear c2
  go_wp2
  go_ret
  exact ⟨by rw [HQ1.out, HQ2.out]; rfl, B2.out⟩
end Go.Proofs.YtpgogpphobafoaaDoor
