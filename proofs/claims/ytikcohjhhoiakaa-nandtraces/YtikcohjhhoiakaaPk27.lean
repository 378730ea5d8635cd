/- Texts put together. -/
import Derived.Test.YtikcohjhhoiakaaPk26
import Derived.Test.YtikcohjhhoiakaaPk14
import Derived.Test.YtikcohjhhoiakaaPk01
set_option maxHeartbeats 8000000
namespace Go.Proofs.Ytikcohjhhoiakaa.na
open Go.RowKit Go.Proofs.Ytikcohjhhoiakaa.fa
set_option maxRecDepth 20000
section
variable {M : Nat → Bool} {w : World} {c r d : Nat} {q : Nat → Nat} {pv tv : Value} {g : List Int} {N P S : Nat} {pl : Pln} {s : St} {l : List Opn}
theorem raw_s (N P : Nat) (s : St) (l : List Opn) : xs (raw N P s l) = scr s := rfl
theorem raw_e (N P : Nat) (s : St) (l : List Opn) : xe (raw N P s l) = ers s := rfl
theorem pprog_no (h : Lay M w c r d q pv tv g N P S pl (raw N P s l)) (hLs : Lsp N P s) (b p : Int) (vb : Value) (ys : List Int) (hy : Byt w vb ys) (x : Int) (hx : pno N P S s b p ys = some x) :
  Calls Try.prog 29 #[.pointer (some ⟨c, 0, none⟩), .agg (ints .i64 [b, p]), vb] w fun e w' => e = .returned (.int .i64 x) ∧ Below w.heap.size w w' := by
 unfold pno at hx
 cases ho : off s with
 | true =>
  rw [if_pos ho] at hx
  cases hx
  exact program_off h [b, p] vb ys hy (by rw [raw_o, ho]; rfl)
 | false =>
  have hon : xo (raw N P s l) = true := by rw [raw_o, ho]; rfl
  rw [if_neg (by rw [ho]; simp)] at hx
  by_cases hg : 0 ≤ b ∧ b < N ∧ 0 ≤ p ∧ p < P
  ·obtain ⟨q1, q2, q3, q4⟩ := hg
   obtain ⟨b', rfl⟩ : ∃ b' : Nat, b = b' := ⟨b.toNat, by omega⟩
   obtain ⟨p', rfl⟩ : ∃ p' : Nat, p = p' := ⟨p.toNat, by omega⟩
   have hb' : b' < N := by omega
   have hp' : p' < P := by omega
   by_cases hl : ys.length = S
   ·rw [if_neg (by simp; omega)] at hx
    simp only [Int.toNat_natCast] at hx
    have hx0 : x ≠ 0 := by
     intro z
     subst z
     split at hx
     ·cases hx
     ·split at hx <;> cases hx
    refine program_ref h [(b' : Int), (p' : Int)] rfl vb ys hy hon b' p' rfl rfl hb' hp' hl x hx0 (fun z => ?_) (fun z1 z2 z3 => ?_) (fun z1 z2 z3 => ?_)
    ·rw [raw_s, raw_p N P s l b' p' hp'] at z
     rw [if_pos z] at hx
     cases hx; rfl
    ·rw [raw_s] at z1
     rw [raw_p N P s l b' p' hp'] at z2
     rw [bhd_lsp hLs l b' p' hb'] at z3
     rw [if_neg (by rw [z1, z2]; simp), if_pos ⟨z2, z3⟩] at hx
     cases hx; rfl
    ·rw [raw_s] at z1
     rw [raw_p N P s l b' p' hp'] at z2 z3
     rw [bhd_lsp hLs l b' p' hb'] at z3
     rw [if_neg (by rw [z1]; simp; omega), if_neg z3] at hx
     cases hx
   ·rw [if_pos (by simp; omega)] at hx
    cases hx
    exact program_len h [(b' : Int), (p' : Int)] rfl vb ys hy hon b' p' rfl rfl hb' hp' hl
  ·rw [if_pos (by intro z; exact hg ⟨z.1, z.2.1, z.2.2.1, z.2.2.2.1⟩)] at hx
   cases hx
   exact program_no h [b, p] rfl vb ys hy hon hg
theorem pprog_do (h : Lay M w c r d q pv tv g N P S pl (raw N P s l)) (hM : Mlt M w) (hW : Wf N P S s) (hLs : Lsp N P s) (hll : l.length = ops s) (hn : ops s ≤ 1000000) (b p : Nat) (vb : Value) (ys : List Int) (hy : Byt (hid M w) vb ys) (hx : pno N P S s b p ys = none) :
  Calls Try.prog 29 #[.pointer (some ⟨c, 0, none⟩), .agg (ints .i64 [(b : Int), (p : Int)]), vb] w (Done M w c r d q pv g N P S pl (ans (pl (ops s))) (raw N P (pdo S pl s b p ys) (l ++ [opn 1 b p ys (ans (pl (ops s)))]))) := by
 obtain ⟨q0, ⟨q1, q2, q3, q4, q5⟩, q6, q7, q8⟩ := pno_none hx
 simp only [Int.toNat_natCast] at q6 q7 q8
 have hb : b < N := by omega
 have hp : p < P := by omega
 have hu := ((hW b hb).1 p hp).2.2.1
 have z := program_do h hM vb ys hy (by rw [raw_o, q0]; rfl) b p hb hp q5 q6 (by rw [raw_p N P s l b p hp]; omega) (by rw [raw_p N P s l b p hp, bhd_lsp hLs l b p hb]; exact q8) (by rw [raw_t, hll]; exact hn)
 rw [raw_pdo hW pl b p hb hp ys l _ hll, raw_t, hll] at z
 exact z
theorem pers_no (h : Lay M w c r d q pv tv g N P S pl (raw N P s l)) (b : Int) (x : Int) (hx : eno N s b = some x) :
  Calls Try.prog 30 #[.pointer (some ⟨c, 0, none⟩), .int .i64 b] w fun e w' => e = .returned (.int .i64 x) ∧ Below w.heap.size w w' := by
 unfold eno at hx
 cases ho : off s with
 | true =>
  rw [if_pos ho] at hx
  cases hx
  exact (erase_off h (by rw [raw_o, ho]; rfl) b).mono fun e w' ⟨h1, h2⟩ => ⟨h1, by rw [h2]; exact Below.refl _ _⟩
 | false =>
  rw [if_neg (by rw [ho]; simp)] at hx
  by_cases hg : 0 ≤ b ∧ b < N
  ·rw [if_neg (by simpa using hg)] at hx; cases hx
  ·rw [if_pos hg] at hx
   cases hx
   exact (erase_no h (by rw [raw_o, ho]; rfl) b hg).mono fun e w' ⟨h1, h2⟩ => ⟨h1, by rw [h2]; exact Below.refl _ _⟩
theorem pscr_no (h : Lay M w c r d q pv tv g N P S pl (raw N P s l)) (b : Int) (x : Int) (hx : eno N s b = some x) :
  Calls Try.prog 31 #[.pointer (some ⟨c, 0, none⟩), .int .i64 b] w fun e w' => e = .returned (.int .i64 x) ∧ Below w.heap.size w w' := by
 unfold eno at hx
 cases ho : off s with
 | true =>
  rw [if_pos ho] at hx
  cases hx
  exact (scrub_off h (by rw [raw_o, ho]; rfl) b).mono fun e w' ⟨h1, h2⟩ => ⟨h1, by rw [h2]; exact Below.refl _ _⟩
 | false =>
  rw [if_neg (by rw [ho]; simp)] at hx
  by_cases hg : 0 ≤ b ∧ b < N
  ·rw [if_neg (by simpa using hg)] at hx; cases hx
  ·rw [if_pos hg] at hx
   cases hx
   exact (scrub_no h (by rw [raw_o, ho]; rfl) b hg).mono fun e w' ⟨h1, h2⟩ => ⟨h1, by rw [h2]; exact Below.refl _ _⟩
theorem pers_do (h : Lay M w c r d q pv tv g N P S pl (raw N P s l)) (hM : Mlt M w) (hW : Wf N P S s) (hll : l.length = ops s) (hn : ops s ≤ 1000000) (b : Nat) (hx : eno N s b = none) :
  Calls Try.prog 30 #[.pointer (some ⟨c, 0, none⟩), .int .i64 (b : Int)] w (Done M w c r d q pv g N P S pl (ans (pl (ops s))) (raw N P (edo P S pl s b) (l ++ [opn 2 b 0 [] (ans (pl (ops s)))]))) := by
 obtain ⟨q0, q1, q2⟩ := eno_none hx
 have hb : b < N := by omega
 have hwf := hW b hb
 have hon : xo (raw N P s l) = true := by rw [raw_o, q0]; rfl
 have he : 0 ≤ xe (raw N P s l) b ∧ xe (raw N P s l) b ≤ 1000000 := by
  rw [raw_e]
  have h1 := hwf.2.2.2.1
  have h2 := hwf.2.2.2.2
  omega
 have ht : (xt (raw N P s l)).length ≤ 1000000 := by rw [raw_t, hll]; exact hn
 match hpl : pl (ops s) with
 | none =>
  have z := erase_none h hM hon b hb (by rw [raw_t, hll]; exact hpl) he ht
  rw [raw_edo_none hW pl b hb l _ hpl, raw_t] at z
  exact z
 | some (cr, mm) =>
  have z := erase_some h hM hon b hb cr mm (by rw [raw_t, hll]; exact hpl) he ht
  rw [raw_edo_some hW pl b hb l _ cr mm hpl, raw_t] at z
  exact z
theorem pscr_do (h : Lay M w c r d q pv tv g N P S pl (raw N P s l)) (hM : Mlt M w) (hW : Wf N P S s) (hll : l.length = ops s) (hn : ops s ≤ 1000000) (b : Nat) (hx : eno N s b = none) :
  Calls Try.prog 31 #[.pointer (some ⟨c, 0, none⟩), .int .i64 (b : Int)] w (Done M w c r d q pv g N P S pl (ans (pl (ops s))) (raw N P (sdo P S pl s b) (l ++ [opn 3 b 0 [] (ans (pl (ops s)))]))) := by
 obtain ⟨q0, q1, q2⟩ := eno_none hx
 have hb : b < N := by omega
 have hon : xo (raw N P s l) = true := by rw [raw_o, q0]; rfl
 have ht : (xt (raw N P s l)).length ≤ 1000000 := by rw [raw_t, hll]; exact hn
 have z := scrub_any h hM hon b hb ht
 rw [← hll, ← raw_sdo hW pl b hb l _ hll]
 exact z
theorem ppok_no (h : Lay M w c r d q pv tv g N P S pl (raw N P s l)) (b p a y : Int) (x : Int) (hx : kno N P S s b p a = some x) :
  Calls Try.prog 32 #[.pointer (some ⟨c, 0, none⟩), .agg (ints .i64 [b, p]), .int .i64 a, .int .u8 y] w fun e w' => e = .returned (.int .i64 x) ∧ Below w.heap.size w w' := by
 unfold kno at hx
 cases ho : off s with
 | false =>
  rw [if_pos (by rw [ho]; simp)] at hx
  cases hx
  exact poke_on h [b, p] a y (by rw [raw_o, ho]; rfl)
 | true =>
  have hon : xo (raw N P s l) = false := by rw [raw_o, ho]; rfl
  rw [if_neg (by rw [ho]; simp)] at hx
  by_cases hg : 0 ≤ b ∧ b < N ∧ 0 ≤ p ∧ p < P
  ·by_cases ha : 0 ≤ a ∧ a < S
   ·rw [if_neg (by simpa using ⟨hg.1, hg.2.1, hg.2.2.1, hg.2.2.2, ha.1, ha.2⟩)] at hx; cases hx
   ·rw [if_pos (by intro z; exact ha z.2.2.2.2)] at hx
    cases hx
    obtain ⟨q1, q2, q3, q4⟩ := hg
    by_cases h0 : a < 0
    ·exact poke_low h [b, p] rfl a y hon b.toNat p.toNat (by show b = _; omega) (by show p = _; omega) (by omega) (by omega) h0
    ·exact poke_high h [b, p] rfl a y hon b.toNat p.toNat (by show b = _; omega) (by show p = _; omega) (by omega) (by omega) (by omega) (by omega)
  ·rw [if_pos (by intro z; exact hg ⟨z.1, z.2.1, z.2.2.1, z.2.2.2.1⟩)] at hx
   cases hx
   exact poke_no h [b, p] rfl a y hon hg
theorem ppok_do (h : Lay M w c r d q pv tv g N P S pl (raw N P s l)) (hM : Mlt M w) (hW : Wf N P S s) (b p a : Nat) (y : Int) (hy : 0 ≤ y ∧ y ≤ 255) (hx : kno N P S s b p a = none) :
  Calls Try.prog 32 #[.pointer (some ⟨c, 0, none⟩), .agg (ints .i64 [(b : Int), (p : Int)]), .int .i64 (a : Int), .int .u8 y] w (Done M w c r d q pv g N P S pl 0 (raw N P (kdo s b p a y) l)) := by
 obtain ⟨q0, q1, q2, q3, q4, q5, q6⟩ := kno_none hx
 have z := poke_do h hM [(b : Int), (p : Int)] rfl (a : Int) y (by rw [raw_o, q0]; rfl) b p rfl rfl (by omega) (by omega) a rfl (by omega) hy
 rw [raw_kdo hW b p a (by omega) (by omega) (by omega) y l] at z
 exact z
end
def bt1 (x : Int) (i : Nat) : Int := bits .or .u8 x ((i : Int) % 256 * x % 256)
def bts (n : Nat) (x : Int) : List Int := (List.range n).map (bt1 x)
theorem bts_len (n : Nat) (x : Int) : (bts n x).length = n := by simp [bts]
theorem bts_succ (n : Nat) (x : Int) : bts (n + 1) x = bts n x ++ [bt1 x n] := by simp [bts, List.range_succ]
theorem bt1_all (x : Int) (hx : 0 ≤ x ∧ x ≤ 255) (i : Nat) : 0 ≤ bt1 x i ∧ bt1 x i ≤ 255 := by
 unfold bt1
 have h : 0 ≤ (i : Int) % 256 * x % 256 ∧ (i : Int) % 256 * x % 256 < 256 := ⟨Int.emod_nonneg _ (by omega), Int.emod_lt_of_pos _ (by omega)⟩
 revert h
 generalize (i : Int) % 256 * x % 256 = z
 intro h
 rw [u8_or _ _ hx.1 (by omega) h.1 h.2]
 have := Nat.or_lt_two_pow (n := 8) (x := x.toNat) (y := z.toNat) (by omega) (by omega)
 omega
theorem bts_all (n : Nat) (x : Int) (hx : 0 ≤ x ∧ x ≤ 255) : AllB (bts n x) := allB_mem fun y hy => by
 obtain ⟨i, -, rfl⟩ := List.mem_map.1 hy
 exact bt1_all x hx i
theorem lbytes_any (n : Nat) (hn : n ≤ 100000) (x : Int) (hx : 0 ≤ x ∧ x ≤ 255) (w : World) :
  Calls Try.prog 25 #[.int .i64 (n : Int), .int .u8 x] w fun e w' => ∃ v, e = .returned v ∧ Own w.heap.size w' v (bts n x) ∧ Below w.heap.size w w' := by
 have HX := hdH (hx)
 clear hx
 go_enter Try.func25, Try.ntmps25
 go_wp2
 go_loopw [5, 6] (fun v i wr => ∃ k : Nat, k ≤ n ∧ i = .int .i64 (k : Int) ∧ Own w.heap.size wr v (bts k x) ∧ Below w.heap.size w wr) (fun _ i _ => n - (intOf i).toNat)
 case atStart => exact ⟨0, Nat.zero_le _, rfl, Own.empty w (Nat.le_refl _), (Below.refl _ _).alloc (Nat.le_refl _) _⟩
 case round =>
  obtain ⟨k, hk, rfl, hown, hbel⟩ := hrel
  have hsz := hbel.size
  have HO : Hid (Own w.heap.size wr _ (bts k x)) := hown
  have HB : Hid (Below w.heap.size w wr) := hbel
  clear hown hbel
  by_cases hlt' : k < n
  ·have HLEN : Hid ((bts k x).length ≤ 1099511627776) := by show _ ≤ _; rw [bts_len]; omega
   go_wp2_with (first
    | (refine push_law wr rfl (.tmp 13) (.tmp 20) rfl w.heap.size hsz _ (bts k x) (bt1 x k) rfl rfl HO.out HLEN.out ?_; intro v2 w2 O2 B2))
   go_roundw
   case rel => exact ⟨k + 1, by omega, by go_num, by rw [bts_succ]; exact O2, HB.out.trans B2⟩
   case measure => simp [intOf]; omega
  ·have : k = n := by omega
   subst this
   go_wp2
   go_ret
   exact ⟨_, rfl, HO.out, HB.out⟩
section
variable {ops : Array Oper} {rest : List Oper} {a : Act} {Q : Exit → Act → World → Prop}
theorem new_lawT {d : Option Tmp} {t ty : TypeId} {pos : String} {af : Array Edge} (w : World) (cs : List Value) (hz : (Try.prog.info? t).map (fun i => (i.zero, i.size)) = some (some (.agg cs.toArray), cs.length))
  (hK : ∀ w', Vr w' w.heap.size cs → (∃ fr, w'.heap[w.heap.size]? = some (.cells cs.toArray t fr)) → Below w.heap.size w w' → w.heap.size < w'.heap.size → wpList Try.prog ops Q rest (a.put d (.pointer (some ⟨w.heap.size, 0, none⟩))) w') :
  wpList Try.prog ops Q (⟨d, Op.alloc t, ty, pos, af, none⟩ :: rest) a w := by
 refine wpList_plain rfl fun K hK' => ?_
 have hz' := (zero_of_info hz).1
 unfold Oper.wp
 simp [execOp, Instr.alloc, hz', newVar, newRow, Value.cells, Result.andThen]
 exact hK' _ _ (hK _ (Vr.new w t cs) ⟨_, heap_alloc_last w _⟩ ((Below.refl _ _).alloc (Nat.le_refl _) _) (by simp))
end
theorem hid_more {M M' : Nat → Bool} (w : World) (hM : ∀ k, M' k = true → M k = true) : hid M (hid M' w) = hid M w := by
 unfold hid
 congr 1
 apply Array.ext
 ·simp
 ·intro i h1 h2
  simp
  cases q : M i with
  | true => simp
  | false =>
   cases q' : M' i with
   | false => simp
   | true => rw [hM i q'] at q; cases q
theorem hid_ref {M : Nat → Bool} {w : World} {v : Value} {g : List Int} {N P : Nat} {pl : Pln} {s : St} (h : Ref (hid M w) v g N P pl s) : Ref w v g N P pl s := by
 obtain ⟨bv, pv, gv, uv, rfl, h1, h2, h3⟩ := h
 exact ⟨bv, pv, gv, uv, rfl, hid_rws h1, fun b hb => hid_blk (h2 b hb), hid_pla h3⟩
theorem ref_less {M M' : Nat → Bool} {w : World} {v : Value} {g : List Int} {N P : Nat} {pl : Pln} {s : St} (h : Ref (hid M w) v g N P pl s) (hM : ∀ k, M' k = true → M k = true) : Ref (hid M' w) v g N P pl s := by
 rw [← hid_more w hM] at h
 exact hid_ref h
theorem byt_put {M : Nat → Bool} {w w' : World} {v : Value} {xs : List Int} {x : Nat} (h : Byt (hid M w) v xs) (hx : ∀ j y, w.cell? ⟨x, j, none⟩ ≠ some (.int .u8 y)) (hg : w.grownBy w' (some x)) : Byt (hid M w') v xs := by
 obtain ⟨ao, cap, rfl, h1, h2, h3, h4, h5⟩ := h
 refine ⟨ao, cap, rfl, h1, h2, h3, h4, fun hp => ?_⟩
 obtain ⟨b, off, rfl, hc⟩ := h5 hp
 refine ⟨b, off, rfl, fun t ht => ?_⟩
 obtain ⟨c1, c2⟩ := hid_cell (hc t ht)
 have hb : b ≠ x := fun e => by rw [e] at c1; exact hx _ _ c1
 have hl : b < w.heap.size := World.block_lt_of_cell? w _ c1
 refine cell_hid ?_ c2
 rw [World.cell?_of_block (w := w) (w' := w') (a := ⟨b, off + t, none⟩) (hg.block b hl (by simpa using hb))]
 exact c1
theorem obj_nobyte {w : World} {x : Nat} {t : TypeId} {fr : Nat × Nat} {cs : List Value} (h : w.heap[x]? = some (.cells cs.toArray t fr)) (hc : ∀ v ∈ cs, ∀ y, v ≠ .int .u8 y) (j : Nat) (y : Int) : w.cell? ⟨x, j, none⟩ ≠ some (.int .u8 y) := by
 intro e
 unfold World.cell? at e
 rw [h] at e
 simp at e
 exact hc _ (List.mem_of_getElem? e) y rfl
section
variable {M : Nat → Bool} {w : World} {c r d : Nat} {q : Nat → Nat} {pv tv : Value} {g : List Int} {N P S : Nat} {pl : Pln} {X : Raw}
theorem Lay.put {w' : World} {x : Nat} (h : Lay M w c r d q pv tv g N P S pl X) (hg : w.grownBy w' (some x)) (hx : M x = false) (hb : ∀ j y, w.cell? ⟨x, j, none⟩ ≠ some (.int .u8 y)) (hP : Pla (hid M w') pv pl) : Lay M w' c r d q pv tv g N P S pl X := by
 obtain ⟨h1, h2, h3, h4, h5, h6, h7, ⟨dv, t1, t2, t3⟩, h9, h10⟩ := h
 have ne : ∀ k, M k = true → some k ≠ some x := fun k hk e => by
  have e : k = x := by injection e
  rw [e, hx] at hk
  cases hk
 refine ⟨h1, h2, h3, h4.kept hg h10.1 (ne _ h2.1.1), h5.kept hg h10.2.2.1 (ne _ h2.1.2.2.1), h6.kept hg h10.2.1 (ne _ h2.1.2.1), h7.kept hg h10.2.2.2 (fun b hb => ne _ (h2.1.2.2.2 b hb)), ⟨dv, t1.kept hg (own_ne fun k hk e => ?_), fun i hi => byt_put (t2 i hi) hb hg, t3⟩, hP, h10.up hg.size⟩
 have := t3 k hk
 rw [e, hx] at this
 cases this
def uni (M E : Nat → Bool) : Nat → Bool := fun k => M k || E k
def StpD (M E : Nat → Bool) (w : World) (c r d : Nat) (q : Nat → Nat) (pv : Value) (g : List Int) (N P S : Nat) (pl : Pln) (s : St) (Y : Raw) (e : Ending) (w' : World) : Prop :=
 ∃ M' tv' v', e = .returned (.tuple #[v', .bool true]) ∧ Lay M' w' c r d q pv tv' g N P S pl Y ∧ Ref (hid (uni M' E) w') v' g N P pl s ∧ (∀ k, k < w.heap.size → M' k = M k) ∧ Frm M w w' ∧ Mlt M' w'
def M6 (M : Nat → Bool) (g6 : Nat) : Nat → Bool := fun k => M k || decide (k = g6)
theorem stp_fin {M' E : Nat → Bool} {tv' v' : Value} {s : St} {Y : Raw} {w5 w7 wa wb : World} {g6 : Nat} {t : TypeId} {cs : List Value}
  (hL : Lay M w c r d q pv tv g N P S pl X) (hA : Lay M' wa c r d q pv tv' g N P S pl Y) (S9 : ∀ k, k < w7.heap.size → M' k = M k) (F9 : Frm M w7 wa) (T9 : Mlt M' wa) (hM : Mlt M w) (B7 : Below w.heap.size w w7) (B5 : Below w5.heap.size w5 w7) (l6 : w.heap.size ≤ g6) (u6 : g6 < w5.heap.size)
  (hT : ∃ fr, w7.heap[g6]? = some (.cells cs.toArray t fr)) (hc : ∀ v ∈ cs, ∀ y, v ≠ .int .u8 y) (hR : Ref (hid (M6 (uni M E) g6) w5) v' g N P pl s) (hg : wa.grownBy wb (some g6)) :
  StpD M E w c r d q pv g N P S pl s Y (.returned (.tuple #[v', .bool true])) wb := by
 have z7 := B7.size
 have z5 := B5.size
 have m6 : M g6 = false := not_hid hM l6
 have m6' : M' g6 = false := by rw [S9 g6 (by omega)]; exact m6
 obtain ⟨fr, hT⟩ := hT
 have hTa : wa.heap[g6]? = some (.cells cs.toArray t fr) := by rw [F9.block (by omega) m6]; exact hT
 have eM : ∀ k, k < w.heap.size → M' k = M k := fun k hk => S9 k (by omega)
 have Fb : Frm M w wb := by
  have h1 : Frm M w wa := (Frm.of_below B7).tr F9
  refine ⟨hg.os.trans h1.1, hg.tape.trans h1.2.1, hg.output.trans h1.2.2.1, Nat.le_trans h1.size hg.size, fun k hk hm => ?_⟩
  rw [hg.block k (Nat.lt_of_lt_of_le hk h1.size) (by simp; omega)]
  exact h1.block hk hm
 have hP : Pla (hid M' wb) pv pl := hL.2.2.2.2.2.2.2.2.1.below (Fb.hid eM)
 refine ⟨M', tv', v', rfl, hA.put hg m6' (obj_nobyte hTa hc) hP, ?_, eM, Fb, fun k hk => Nat.lt_of_lt_of_le (T9 k hk) hg.size⟩
 have F6 : Frm (M6 (uni M E) g6) w5 wb := by
  have h1 : Frm (M6 (uni M E) g6) w5 w7 := Frm.of_below B5
  have h2 : Frm (M6 (uni M E) g6) w7 wa := ⟨F9.1, F9.2.1, F9.2.2.1, F9.size, fun k hk hm => F9.block hk (by simp [M6, uni] at hm; exact hm.1.1)⟩
  have h3 : Frm (M6 (uni M E) g6) wa wb := Frm.grown hg (fun k e => by injection e with e; subst e; simp [M6])
  exact (h1.tr h2).tr h3
 refine ref_less (M := M6 (uni M' E) g6) (hR.below (F6.hid fun k hk => ?_)) fun k hk => by simp [M6, hk]
 simp only [M6, uni]
 rw [S9 k (by omega)]
theorem uni_lt {E : Nat → Bool} (h1 : Mlt M w) (h2 : Mlt E w) : Mlt (uni M E) w := fun k hk => by
 simp [uni] at hk
 rcases hk with hk | hk
 ·exact h1 k hk
 ·exact h2 k hk
theorem uni_frm {E : Nat → Bool} {w' : World} (h : Frm M w w') : Frm (uni M E) w w' := ⟨h.1, h.2.1, h.2.2.1, h.size, fun k hk hm => h.block hk (by simp [uni] at hm; exact hm.1)⟩
theorem m6_lt {g6 : Nat} {w3 : World} (hM : Mlt M w) (h : w.heap.size ≤ w3.heap.size) (h6 : g6 < w3.heap.size) : Mlt (M6 M g6) w3 := fun k hk => by
 simp [M6] at hk
 rcases hk with hk | hk
 ·have := hM k hk; omega
 ·omega
theorem m6_ref {g6 : Nat} {w3 : World} {v : Value} {s : St} (hR : Ref (hid M w) v g N P pl s) (hB : Below w.heap.size w w3) (h6 : w.heap.size ≤ g6) : Ref (hid (M6 M g6) w3) v g N P pl s :=
 hR.below ((Frm.of_below hB).hid fun k hk => by
  have : k ≠ g6 := by omega
  simp [M6, this])
end
theorem zc_nobyte : ∀ v ∈ ([.int .i64 0, .int .i64 0, .int .i64 0, .int .i64 0, .int .i64 0, .int .i64 0, .slice none 0 0, .slice none 0 0, .bool false, .int .i64 0] : List Value), ∀ y, v ≠ .int .u8 y := by
 intro v hv y
 simp at hv
 rcases hv with rfl | rfl | rfl | rfl <;> simp
theorem chr_one {N P : Nat} {g2 g3 g4 g5 : Int} {bq po : Option Addr} {bn bc pn pc : Nat} {o : Bool} {n : Int} : ∀ v ∈ chr [(N : Int), P, g2, g3, g4, g5] (.slice bq bn bc) (.slice po pn pc) o n, v.oneCell' = true := by
 intro v hv
 simp [chr] at hv
 rcases hv with rfl | rfl | rfl | rfl | rfl | rfl | rfl | rfl | rfl | rfl <;> rfl
theorem own_form {B : Nat} {w : World} {v : Value} {n : Nat} {x : Int} (h : Own B w v (bts n x)) (hn : 0 < n) : ∃ rb cb, v = .slice (some ⟨rb, 0, none⟩) n cb ∧ n ≤ cb ∧ (1 : Int) ≤ (n : Int) ∧ (n : Int) ≤ (cb : Int) := by
 obtain ⟨h1, h2⟩ := h
 rw [bts_len] at h2
 rcases h2 with ⟨e, e1⟩ | ⟨g, cap, cur, e, -, -, h3, -⟩
 ·omega
 ·exact ⟨g, cap, e, by omega, by omega, by omega⟩
theorem own_hidS {M : Nat → Bool} {B : Nat} {w : World} {v : Value} {xs : List Int} (h : Own B w v xs) (ha : AllB xs) (hM : ∀ b, M b = true → b < B) : Byt (hid M w) v xs := own_hid h ha hM
theorem rng_place {w : World} {k b p x : Int} {on : Bool} {g : Nat} (h : w.rangeAt g 0 [.int .i64 k, .int .i64 b, .int .i64 p, .int .u8 x, .bool on]) : w.rangeAt g 1 ([b, p].map (Value.int .i64)) := fun j v hv => by
 match j, hv with
 | 0, hv => exact h 1 v hv
 | 1, hv => exact h 2 v hv
theorem oneU8 : One 5 := ⟨⟨_, Try.underlying5, rfl⟩, by kernel_rfl⟩
theorem oneBool : One 4 := ⟨⟨_, Try.underlying4, rfl⟩, by kernel_rfl⟩
theorem cut_hid {ops : Array Oper} {rest : List Oper} {o : Oper} {a : Act} {Q : Exit → Act → World → Prop} {M : Nat → Bool} (w : World) (hg : o.guard = none) (s x : Operand) (hop : o.op = Op.slice 53 s (some x) none none) (v : Value) (xs : List Int) (l : Nat)
  (hs : a.eval s = v) (hx : a.eval x = .int .i64 (l : Int)) (hl : l ≤ xs.length) (hb : Byt (hid M w) v xs)
  (hK : ∀ v', Byt (hid M w) v' (xs.drop l) → wpList Try.prog ops Q rest (a.put o.dst v') w) :
  wpList Try.prog ops Q (o :: rest) a w := by
 refine wpList_plain hg fun K hK' => ?_
 obtain ⟨ao, cap, rfl, hc, hb'⟩ := byt_cut hb l xs.length hl (Nat.le_refl _)
 have hrun := run_slice_l (P := Try.prog) w 53 ao xs.length cap und_bytes .i64 (l : Int) (by omega) (by omega)
 rw [elem_bytes, run_size_u8] at hrun
 rw [List.take_length] at hb'
 unfold Oper.wp
 simp [execOp, hop, hs, hx, run_sliceAt_slice w 53 _ _ _ _ und_bytes, hrun, Result.andThen]
 exact hK' _ _ (hK _ hb')
end Go.Proofs.Ytikcohjhhoiakaa.na
