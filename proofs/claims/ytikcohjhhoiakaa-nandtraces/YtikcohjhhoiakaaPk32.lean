/- Texts put together. -/
import Derived.Test.YtikcohjhhoiakaaPk00
import Derived.Test.YtikcohjhhoiakaaPk31
import Derived.Test.YtikcohjhhoiakaaPk19
import Derived.Laws.StructEq
import Derived.Laws.Tables
import Derived.Test.YtikcohjhhoiakaaPk01
set_option maxHeartbeats 8000000
namespace Go.Proofs.Ytikcohjhhoiakaa
open Go.RowKit
set_option maxRecDepth 20000
theorem not_same {xs ys : List Int} {k : Nat} (h : gb xs k ≠ gb ys k) : decide (xs = ys) = false := by
 simp only [decide_eq_false_iff_not]; intro e; exact h (by rw [e])
theorem same_any (w : World) (va vb : Value) (xs ys : List Int) (ha : Byt w va xs) (hb : Byt w vb ys) :
  Calls Try.prog 19 #[va, vb] w fun e w' => e = .returned (.bool (decide (xs = ys))) ∧ ∃ n, w' = w.drewN n := by
 obtain ⟨ao, ca, rfl, ha1, ha2, ha3, -, ha5⟩ := ha
 obtain ⟨bo, cb, rfl, hb1, hb2, hb3, -, hb5⟩ := hb
 by_cases hl : xs.length = ys.length
 ·have HL : Hid (xs.length = ys.length) := hl
  have HB5 : Hid (0 < xs.length → ∃ b off, bo = some ⟨b, off, none⟩ ∧ ∀ t, t < xs.length → w.cell? ⟨b, off + t, none⟩ = some (.int .u8 (gb ys t))) := by
   rw [hl]; exact hb5
  have HA5 : Hid (0 < xs.length → ∃ b off, ao = some ⟨b, off, none⟩ ∧ ∀ t, t < xs.length → w.cell? ⟨b, off + t, none⟩ = some (.int .u8 (gb xs t))) := ha5
  clear hb5 ha5
  rw [← hl] at hb1 ⊢
  clear hl
  have hm : xs.length ≤ 9223372036854775807 := by omega
  go_enter Try.func19, Try.ntmps19
  go_wp2
  go_loopw [5] (fun i wr => ∃ k n : Nat, k ≤ xs.length ∧ i = .int .i64 k ∧ wr = w.drewN n ∧ Hid (∀ t, t < k → gb xs t = gb ys t)) (fun i _ => xs.length - (intOf i).toNat)
  case atStart => exact ⟨0, 0, Nat.zero_le _, rfl, rfl, fun t ht => by omega⟩
  case round =>
   obtain ⟨k, n, hk, rfl, rfl, heq⟩ := hrel
   by_cases hlt : k < xs.length
   ·obtain ⟨b, off, rfl, hca⟩ := HA5.out (by omega)
    obtain ⟨b', off', rfl, hcb⟩ := HB5.out (by omega)
    have c1 : w.cell? ⟨b, off + k, none⟩ = some (.int .u8 (gb xs k)) := hca k hlt
    have c2 : w.cell? ⟨b', off' + k, none⟩ = some (.int .u8 (gb ys k)) := hcb k hlt
    have lk : (k : Int) < (xs.length : Int) := by omega
    clear hca hcb
    go_wp2
    go_quiet (fail)
    go_wp2
    ·have hne : (gb xs k != gb ys k) = true := by assumption
     go_ret
     refine ⟨?_, n + nq, World.drewN_drewN ..⟩
     have : decide (xs = ys) = false := not_same (by simpa using hne)
     rw [this]; rfl
    ·have hne : (gb xs k != gb ys k) = false := by assumption
     go_roundw
     case rel => exact ⟨k + 1, n + nq, by omega, by go_num, rfl, fun t ht => if h : t < k then heq.out t h else by
      have : t = k := by omega
      subst this; simpa using hne⟩
     case measure => simp [intOf]; omega
   ·go_wp2
    go_ret
    refine ⟨?_, n, rfl⟩
    have : decide (xs = ys) = true := decide_eq_true (ext_gb HL.out fun t ht => heq.out t (by omega))
    rw [this]; rfl
 ·have : decide (xs = ys) = false := by simp only [decide_eq_false_iff_not]; intro e; exact hl (by rw [e])
  rw [this]
  go_enter Try.func19, Try.ntmps19
  go_wp2
  go_ret
  exact ⟨rfl, 0, rfl⟩
end Go.Proofs.Ytikcohjhhoiakaa
namespace Go.Proofs.Ytikcohjhhoiakaa.na
open Go.RowKit Go.Proofs.Ytikcohjhhoiakaa.fa
set_option maxRecDepth 20000
theorem bks_form {B : Nat} {w : World} {bv : Value} {N P S : Nat} (h : ∃ gv uv : Nat → Value, OwR B w bv 50 5 (bks N gv uv (fun _ => (-1 : Int)) (fun _ => false) (fun _ => (0 : Int))) ∧ ∀ b, b < N → BlkO B w (gv b) (uv b) P (fun _ => List.replicate S 255) (fun _ => 0)) : ∃ bq bc, bv = .slice bq N bc := by
 obtain ⟨gv, uv, h, -⟩ := h
 exact rws_form h.rws (bks_len N _ _ _ _ _)
theorem stps_at {w : World} {so : Option Addr} {sc : Nat} {ts : List Stp} (h : Stps w (.slice so ts.length sc) ts) (k : Nat) (hk : k < ts.length) : ∃ sb sf, so = some ⟨sb, sf, none⟩ ∧ (0 ≤ (ts.getD k (0, 0, 0, 0, false)).2.2.2.1 ∧ (ts.getD k (0, 0, 0, 0, false)).2.2.2.1 ≤ 255) ∧ ∀ w', Below w.heap.size w w' → w'.rangeAt sb (sf + k * 5) (tc5 (ts.getD k (0, 0, 0, 0, false))) := by
 obtain ⟨⟨ao, cap, e, -, -, -, h5, h6⟩, h7⟩ := h
 rw [List.length_map] at h5 h6
 injection e with e1 e2 e3
 subst e1
 obtain ⟨b, off, rfl, hc⟩ := h6 (by omega)
 have he : el (ts.map tc5) k = tc5 (ts.getD k (0, 0, 0, 0, false)) := by simp [el, List.getD, hk]
 have hr := hc k hk
 rw [he] at hr
 have hlt : b < w.heap.size := range_lt hr (by simp [tc5])
 refine ⟨b, off, rfl, h7 _ ?_, fun w' hb => range_heap hr (hb.block b hlt)⟩
 rw [List.getD_eq_getElem?_getD, List.getElem?_eq_getElem hk]
 exact List.getElem_mem hk
theorem nxt_le {N P S : Nat} (pl : Pln) (s : St) (l : List Opn) (k b p x : Int) (on : Bool) : ops (nxt N P S pl s l k b p x on).1 ≤ ops s + 1 := by
 have hp : ∀ s' : St, ops s' = ops s + 1 → ops s' ≤ ops s + 1 := fun _ e => by omega
 have hz : ∀ s' : St, ops s' = ops s → ops s' ≤ ops s + 1 := fun _ e => by omega
 unfold nxt
 repeat' split
 all_goals first | exact hz _ rfl | exact hp _ rfl
theorem hgm {M M' : Nat → Bool} {w : World} {B gW : Nat} (h : (∀ j, M j = true → B ≤ j) ∧ M gW = false) (hA : ∀ k, k < w.heap.size → M' k = M k) (hB : B ≤ gW) (hW : gW < w.heap.size) : (∀ j, M' j = true → B ≤ j) ∧ M' gW = false := by
 refine ⟨fun j hj => ?_, by rw [hA gW hW]; exact h.2⟩
 by_cases q : j < w.heap.size
 ·rw [hA j q] at hj; exact h.1 j hj
 ·omega
theorem sim_form {M E : Nat → Bool} {w : World} {c r d : Nat} {q : Nat → Nat} {pv : Value} {g : List Int} {N P S : Nat} {pl : Pln} {s : St} {l : List Opn} {v : Value} (h : Sim M E w c r d q pv g N P S pl s l v) : ∃ bq bc po pn pc, v = .agg (chr g (.slice bq N bc) (.slice po pn pc) (off s) (ops s : Int)).toArray := by
 obtain ⟨tv, -, h2, -⟩ := h
 obtain ⟨bq, bc, po, pn, pc, gv, uv, e, -⟩ := ref_open h2
 exact ⟨bq, bc, po, pn, pc, e⟩
theorem step_nx {M E : Nat → Bool} {w : World} {c r d : Nat} {q : Nat → Nat} {pv : Value} {g : List Int} {N P S : Nat} {pl : Pln} {s s2 : St} {l l2 : List Opn} {v : Value} (hs : Shp g N P S) (hI : Inv N P S s l) (hn : ops s ≤ 1000000) (hE : Mlt E w) (h : Sim M E w c r d q pv g N P S pl s l v) (k b p x : Int) (hx : 0 ≤ x ∧ x ≤ 255) (on : Bool) (hnx : nxt N P S pl s l k b p x on = (s2, l2)) :
  Calls Try.prog 15 #[.pointer (some ⟨c, 0, none⟩), v, .agg ([.int .i64 k, .int .i64 b, .int .i64 p, .int .u8 x, .bool on] : List Value).toArray] w fun e w' => ∃ v9, e = .returned v9 ∧ ∃ M' v', v9 = .tuple #[v', .bool true] ∧ Sim M' E w' c r d q pv g N P S pl s2 l2 v' ∧ (∀ k, k < w.heap.size → M' k = M k) ∧ Frm M w w' := by
 refine (step_any hs hI hn hE h k b p x hx on).mono ?_
 rintro e w' ⟨M', v', rfl, z⟩
 rw [hnx] at z
 exact ⟨_, rfl, M', v', rfl, z⟩
def two (a b : Nat) : Nat → Bool := fun k => decide (k = a) || decide (k = b)
theorem two_lt {a b : Nat} {w : World} (ha : a < w.heap.size) (hb : b < w.heap.size) : Mlt (two a b) w := fun k hk => by
 simp [two] at hk
 omega
section
variable {M E : Nat → Bool} {w w' : World} {c r d : Nat} {q : Nat → Nat} {pv : Value} {g : List Int} {N P S : Nat} {pl : Pln} {s : St} {l : List Opn} {v : Value}
theorem Sim.more {gW gY : Nat} (h : Sim M (one gW) w c r d q pv g N P S pl s l v) (hb : Below w.heap.size w w') (hY : w.heap.size ≤ gY) : Sim M (two gW gY) w' c r d q pv g N P S pl s l v := by
 obtain ⟨tv, h1, h2, h3, h4⟩ := h
 have F : Frm (uni M (one gW)) w w' := Frm.of_below hb
 have e : ∀ k, k < w.heap.size → uni M (two gW gY) k = uni M (one gW) k := fun k hk => by
  have : k ≠ gY := by omega
  simp [uni, two, one, this]
 exact ⟨tv, h1.below hb, h2.below (F.hid e), fun k hk => Nat.lt_of_lt_of_le (h3 k hk) hb.size, h4.below (F.hid e)⟩
theorem Sim.putE {gY : Nat} (h : Sim M E w c r d q pv g N P S pl s l v) (hT : NoB w gY) (hM : M gY = false) (hE : E gY = true) (hg : w.grownBy w' (some gY)) : Sim M E w' c r d q pv g N P S pl s l v := by
 obtain ⟨tv, h1, h2, h3, h4⟩ := h
 have F : Frm (uni M E) w w' := Frm.grown hg (fun k e => by injection e with e; subst e; simp [uni, hE])
 exact ⟨tv, h1.put hg hM hT (pla_less (h4.below F.hid0) fun k hk => by simp [uni, hk]), h2.below F.hid0, fun k hk => Nat.lt_of_lt_of_le (h3 k hk) hg.size, h4.below F.hid0⟩
theorem Sim.less {gW gY : Nat} (h : Sim M (two gW gY) w c r d q pv g N P S pl s l v) : Sim M (one gW) w c r d q pv g N P S pl s l v := by
 obtain ⟨tv, h1, h2, h3, h4⟩ := h
 have e : ∀ k, uni M (one gW) k = true → uni M (two gW gY) k = true := fun k hk => by
  simp [uni, one, two] at hk ⊢
  rcases hk with z | z
  ·exact Or.inl z
  ·exact Or.inr (Or.inl z)
 exact ⟨tv, h1, ref_less h2 e, h3, pla_less h4 e⟩
theorem Sim.mlt (h : Sim M E w c r d q pv g N P S pl s l v) : Mlt M w := by obtain ⟨_, _, _, z, _⟩ := h; exact z
end
def NoU (w : World) (g : Nat) : Prop := ∃ cs t fr, w.heap[g]? = some (.cells (cs : List Value).toArray t fr) ∧ ∀ u ∈ cs, ∀ y, u ≠ .int .u8 y
theorem NoU.nob {w : World} {g : Nat} (h : NoU w g) : NoB w g := by
 obtain ⟨cs, t, fr, h1, h2⟩ := h
 exact obj_nobyte h1 h2
theorem NoU.heap {w w' : World} {g : Nat} (h : NoU w g) (e : w'.heap[g]? = w.heap[g]?) : NoU w' g := by
 obtain ⟨cs, t, fr, h1, h2⟩ := h
 exact ⟨cs, t, fr, by rw [e]; exact h1, h2⟩
theorem zero_nou (n : Nat) : ∀ u ∈ (Builtin.zeroCells (Value.agg #[.int .i64 0, .int .i64 0, .int .i64 0, .slice none 0 0, .int .i64 0]).cells n).toList, ∀ y, u ≠ .int .u8 y := by
 intro u hu y e
 subst e
 simp only [Builtin.zeroCells, Array.toList_map, List.mem_map] at hu
 obtain ⟨i, -, hi⟩ := hu
 have hz : (Value.agg #[.int .i64 0, .int .i64 0, .int .i64 0, .slice none 0 0, .int .i64 0]).cells = #[.int .i64 0, .int .i64 0, .int .i64 0, .slice none 0 0, .int .i64 0] := rfl
 rw [hz] at hi
 have hl : i % 5 < 5 := Nat.mod_lt _ (by omega)
 simp only [List.size_toArray, List.length_cons, List.length_nil] at hi
 match h : i % (0 + 1 + 1 + 1 + 1 + 1), hl with
 | 0, _ => rw [h] at hi; cases hi
 | 1, _ => rw [h] at hi; cases hi
 | 2, _ => rw [h] at hi; cases hi
 | 3, _ => rw [h] at hi; cases hi
 | 4, _ => rw [h] at hi; cases hi
theorem run_appO (w : World) {ty : TypeId} (B gg cp : Nat) (es : List (List Value)) (y : List Value) (ad : Addr) (c : Nat) (hown : OwR B w (.slice (some ⟨gg, 0, none⟩) es.length cp) 64 5 es) (hB : B ≤ w.heap.size) (hN : NoU w gg) (hes : ∀ u ∈ es.flatten, ∀ z, u ≠ .int .u8 z) (hy : Rws w (.slice (some ad) 1 c) 5 [y]) (h1 : ∀ u ∈ y, u.oneCell' = true) (hyu : ∀ u ∈ y, ∀ z, u ≠ .int .u8 z) (hn : es.length ≤ 1000) :
  ∃ gg' cp' w', (Builtin.append_ #[61, 61] ty #[.slice (some ⟨gg, 0, none⟩) es.length cp, .slice (some ad) 1 c]).run Try.prog w = .ok (.slice (some ⟨gg', 0, none⟩) (es.length + 1) cp') w' ∧ OwR B w' (.slice (some ⟨gg', 0, none⟩) (es.length + 1) cp') 64 5 (es ++ [y]) ∧ NoU w' gg' ∧ w.grownBy w' (some gg) ∧ (gg' = gg ∨ w.heap.size ≤ gg' ∧ Below w.heap.size w w') := by
 obtain ⟨i0, hi0, hz0, hz1, hz2⟩ := info_parts info_op
 have hyl : y.length = 5 := by obtain ⟨_, _, _, _, _, _, q4, _⟩ := hy; simpa [el] using q4 0 (by simp)
 have hell : ∀ t, t < (es ++ [y]).length → (el (es ++ [y]) t).length = 5 := fun t ht => by
  rw [List.length_append] at ht
  rw [el_app]
  split
  ·rename_i h; exact hown.2 t h
  ·rename_i h
   have : t - es.length = 0 := by simp at ht; omega
   rw [this]
   exact hyl
 obtain ⟨ao, cap, e0, q1, q2, q3, q4, q5⟩ := hy
 injection e0 with e0 e0' e0''
 subst e0
 obtain ⟨b, off, e9, hc⟩ := q5 (by simp)
 injection e9 with e9
 subst e9
 have hnews : ∀ j u, y[j]? = some u → w.cell? ((⟨b, off, none⟩ : Addr).add j) = some u := fun j u hj => by
  have := hc 0 (by simp) j u (by simpa [el] using hj)
  rw [Addr.add_mid]
  simpa using this
 have fin : ∀ v' w', w'.ownsRow B 64 5 v' (es.length + 1) (es.flatten ++ y) → OwR B w' v' 64 5 (es ++ [y]) := fun v' w' h => ⟨by rw [List.length_append, List.flatten_append]; simpa using h, hell⟩
 have hfl : es.flatten.length = es.length * 5 := flat_len hown.2
 rcases hown.1.2 with ⟨e1, -⟩ | ⟨g1, c1, cur, e1, hbg, hg, hnc, hcm, hcs, htake⟩
 ·cases e1
 injection e1 with e1 e2 e3
 injection e1 with e1
 injection e1 with e1
 subst e1
 subst e3
 by_cases hroom : es.length + 1 ≤ cp
 ·obtain ⟨v', w', hrun, r1, r2, r3⟩ := run_append_own (P := Try.prog) w B 61 ty 64 i0 _ 5 56 Try.underlying61 hi0 hz0 hz1 hz2 rfl (by omega) _ es.length es.flatten hown.1 ⟨b, off, none⟩ 1 c y (by omega) hnews h1 (by simp only [maxLen]; omega) (by omega) hB
  have hr2 := run_append_room (P := Try.prog) w 61 ty 64 i0 Try.underlying61 hi0 gg es.length cp cur hg ⟨b, off, none⟩ 1 c y (by rw [hz1]; omega) hnews h1 hroom (by rw [hz1, hcs]; omega)
  rw [hr2] at hrun
  injection hrun with f1 f2
  subst f1
  refine ⟨gg, cp, w', by rw [hr2, f2], fin _ w' r1, ?_, r2, Or.inl rfl⟩
  rw [← f2]
  refine ⟨_, _, _, setRow_heap w gg cur _ 64 (0, 0) hg, fun u hu => ?_⟩
  obtain ⟨cs, t, fr, h8, h9⟩ := hN
  rw [hg] at h8
  injection h8 with h8
  injection h8 with h8 _ _
  have hcu : ∀ u ∈ cur.toList, ∀ z, u ≠ .int .u8 z := by rw [h8]; simpa using h9
  simp only [List.mem_append] at hu
  rcases hu with (hu | hu) | hu
  ·exact hcu u (List.mem_of_mem_take hu)
  ·exact hyu u hu
  ·exact hcu u (List.mem_of_mem_drop hu)
 ·have hr := run_append_grow (P := Try.prog) w 61 ty 64 i0 _ Try.underlying61 hi0 hz0 ⟨gg, 0, none⟩ es.length cp es.flatten (by rw [hz1]; exact hfl) (fun j u hj => hown.1.cells rfl j u hj) ⟨b, off, none⟩ 1 c y (by rw [hz1]; omega) hnews (by omega) (by omega) (growslice_fits (by omega) (by rw [hz2]; omega))
  obtain ⟨v', w', hrun, r1, r2⟩ := run_append_arg_grows (P := Try.prog) w 61 ty 64 i0 _ 5 56 Try.underlying61 hi0 hz0 hz1 hz2 rfl (by omega) ⟨gg, 0, none⟩ es.length cp es.flatten hfl (fun j u hj => hown.1.cells rfl j u hj) ⟨b, off, none⟩ 1 c y (by omega) hnews (by omega) (by simp only [maxLen]; omega) (by omega)
  rw [hr] at hrun
  injection hrun with f1 f2
  subst f1
  refine ⟨w.heap.size, _, w', by rw [hr, f2], fin _ w' ?_, ?_, ⟨r2.os, r2.tape, r2.output, r2.size, fun j hj _ => r2.block j hj (by simp)⟩, Or.inr ⟨Nat.le_refl _, ?_⟩⟩
  ·obtain ⟨a1, a2⟩ := r1
   refine ⟨a1, ?_⟩
   rcases a2 with f1 | ⟨g', c', u', f1, f2, f3⟩
   ·exact Or.inl f1
   ·exact Or.inr ⟨g', c', u', f1, Nat.le_trans hB f2, f3⟩
  ·rw [← f2]
   refine ⟨(es.flatten ++ y) ++ (Builtin.zeroCells _ _).toList, 64, (0, 0), by rw [show w.heap.size = w.drew.heap.size from rfl, heap_alloc_last]; simp; rfl, fun u hu => ?_⟩
   simp only [List.mem_append] at hu
   rcases hu with (hu | hu) | hu
   ·exact hes u hu
   ·exact hyu u hu
   ·exact zero_nou _ u hu
  ·exact ⟨r2.os, r2.tape, r2.output, r2.size, fun j hj => r2.block j hj (by simp)⟩
theorem nxt_more {N P S : Nat} (pl : Pln) (s : St) (l : List Opn) (k b p x : Int) (on : Bool) (s2 : St) (l2 : List Opn) (hS : 0 < S) (h : nxt N P S pl s l k b p x on = (s2, l2)) :
  (ops s2 = ops s ∧ l2 = l) ∨ (ops s2 = ops s + 1 ∧ 0 ≤ b ∧ ((k = 1 ∧ 0 ≤ p ∧ x ≠ 7 ∧ l2 = l ++ [opn 1 b p (bts S x) (ans (pl (ops s)))]) ∨ ((k = 2 ∨ k = 3) ∧ l2 = l ++ [opn k b 0 [] (ans (pl (ops s)))]))) := by
 unfold nxt at h
 by_cases h1 : k = 1
 ·rw [if_pos h1] at h
  cases hq : pno N P S s b p (ysOf S x) with
  | some z => rw [hq] at h; injection h with e1 e2; subst e1; subst e2; exact Or.inl ⟨rfl, rfl⟩
  | none =>
   rw [hq] at h
   injection h with e1 e2
   have hd : 0 ≤ b ∧ b < N ∧ 0 ≤ p ∧ p < P ∧ (ysOf S x).length = S := by
    unfold pno at hq
    split at hq
    ·cases hq
    split at hq
    ·cases hq
    ·rename_i z; exact Decidable.not_not.1 z
   have hx : x ≠ 7 := fun e => by
    have z := hd.2.2.2.2
    unfold ysOf at z
    rw [if_pos e] at z
    simp only [List.length_drop, bts_len] at z
    have := hd.2.2.1
    omega
   have hy : ysOf S x = bts S x := if_neg hx
   refine Or.inr ⟨by rw [← e1]; rfl, hd.1, Or.inl ⟨h1, hd.2.2.1, hx, ?_⟩⟩
   rw [← e2, hy, Int.toNat_of_nonneg hd.1, Int.toNat_of_nonneg hd.2.2.1]
 ·rw [if_neg h1] at h
  by_cases h2 : k = 2
  ·rw [if_pos h2] at h
   cases hq : eno N s b with
   | some z => rw [hq] at h; injection h with e1 e2; subst e1; subst e2; exact Or.inl ⟨rfl, rfl⟩
   | none =>
    rw [hq] at h
    injection h with e1 e2
    have hd : 0 ≤ b ∧ b < N := by
     unfold eno at hq
     split at hq
     ·cases hq
     split at hq
     ·cases hq
     ·rename_i z; exact Decidable.not_not.1 z
    refine Or.inr ⟨by rw [← e1]; rfl, hd.1, Or.inr ⟨Or.inl h2, ?_⟩⟩
    rw [← e2, Int.toNat_of_nonneg hd.1, h2]
  ·rw [if_neg h2] at h
   by_cases h3 : k = 3
   ·rw [if_pos h3] at h
    cases hq : eno N s b with
    | some z => rw [hq] at h; injection h with e1 e2; subst e1; subst e2; exact Or.inl ⟨rfl, rfl⟩
    | none =>
     rw [hq] at h
     injection h with e1 e2
     have hd : 0 ≤ b ∧ b < N := by
      unfold eno at hq
      split at hq
      ·cases hq
      split at hq
      ·cases hq
      ·rename_i z; exact Decidable.not_not.1 z
     refine Or.inr ⟨by rw [← e1]; rfl, hd.1, Or.inr ⟨Or.inr h3, ?_⟩⟩
     rw [← e2, Int.toNat_of_nonneg hd.1, h3]
   ·rw [if_neg h3] at h
    left
    split at h
    ·split at h <;> (injection h with e1 e2; subst e1; subst e2; exact ⟨rfl, rfl⟩)
    ·split at h <;> (injection h with e1 e2; subst e1; subst e2; exact ⟨rfl, rfl⟩)
def Opr (w : World) (v : Value) (tr : List Opn) : Prop := ∃ dv : Nat → Value, Rws w v 5 (opcs tr dv) ∧ ∀ i, i < tr.length → Byt w (dv i) (gO tr i).2.2.2.1
theorem Opr.below {w w' : World} {v : Value} {tr : List Opn} (h : Opr w v tr) (hb : Below w.heap.size w w') : Opr w' v tr := by
 obtain ⟨dv, h1, h2⟩ := h
 exact ⟨dv, h1.below (by omega) hb, fun i hi => (h2 i hi).below hb⟩
def Ro5 (w : World) (g n : Nat) (tr : List Opn) (dn : Nat → Value) : Prop := ∀ i, i < n → w.rangeAt g (i * 5) (opc (gO tr i) (dn i)) ∧ w.there g (i * 5) 5
theorem Ro5.heap {w w' : World} {g n : Nat} {tr : List Opn} {dn : Nat → Value} (h : Ro5 w g n tr dn) (e : w'.heap[g]? = w.heap[g]?) : Ro5 w' g n tr dn := fun i hi => ⟨range_heap (h i hi).1 e, there_heap (h i hi).2 e⟩
theorem Ro5.set {w : World} {g n k : Nat} {tr : List Opn} {dn : Nat → Value} (h : Ro5 w g n tr dn) (hk : k < n) (u : Value) : Ro5 (w.setCell ⟨g, k * 5 + 3, none⟩ u) g n tr (at1 dn k u) := fun i hi => by
 refine ⟨fun j v hv => ?_, World.there_setCells (h i hi).2 g (k * 5 + 3) [u]⟩
 have hj : j < 5 := by have := (List.getElem?_eq_some_iff.1 hv).1; simpa [opc] using this
 by_cases e : i = k ∧ j = 3
 ·obtain ⟨rfl, rfl⟩ := e
  have hv' : v = u := by simp [opc, at1] at hv; exact hv.symm
  rw [hv']
  exact World.cell?_setCell_same _ _ _ ((h i hi).1 3 _ rfl)
 ·rw [World.cell?_setCell_other _ _ _ _ (by intro hh; injection hh with _ h2; omega)]
  refine (h i hi).1 j v ?_
  by_cases ei : i = k
  ·have ej : j ≠ 3 := fun q => e ⟨ei, q⟩
   rw [← hv]
   match j, hj, ej with
   | 0, _, _ => rfl
   | 1, _, _ => rfl
   | 2, _, _ => rfl
   | 4, _, _ => rfl
  ·rw [at1_other _ _ _ _ ei] at hv
   exact hv
theorem Ro5.opr {w : World} {g cap : Nat} {tr : List Opn} {dn : Nat → Value} (h : Ro5 w g tr.length tr dn) (hb : ∀ i, i < tr.length → Byt w (dn i) (gO tr i).2.2.2.1) (h1 : tr.length ≤ cap) (h2 : cap ≤ 9223372036854775807) : Opr w (.slice (some ⟨g, 0, none⟩) tr.length cap) tr :=
 ⟨dn, ⟨some ⟨g, 0, none⟩, cap, by rw [opcs_len], by rw [opcs_len]; exact h1, h2, (by intro e; cases e), fun t ht => by rw [opcs_len] at ht; rw [opcs_el _ _ _ ht]; rfl, fun _ => ⟨g, 0, rfl, fun t ht => by rw [opcs_len] at ht; rw [opcs_el _ _ _ ht, Nat.zero_add]; exact (h t ht).1⟩⟩, hb⟩
theorem opcs_one {tr : List Opn} {dv : Nat → Value} (h : ∀ i, i < tr.length → (dv i).oneCell' = true) : ∀ u ∈ (opcs tr dv).flatten, u.oneCell' = true := fun u hu => by
 simp only [opcs, List.mem_flatten, List.mem_map, List.mem_range] at hu
 obtain ⟨t, ⟨j, hj, rfl⟩, hu⟩ := hu
 simp only [opc, List.mem_cons, List.not_mem_nil, or_false] at hu
 rcases hu with rfl | rfl | rfl | rfl | rfl
 ·rfl
 ·rfl
 ·rfl
 ·exact h j hj
 ·rfl
theorem pushO_law {ops : Array Oper} {rest : List Oper} {o : Oper} {a : Act} {Q : Exit → Act → World → Prop} (w : World) (hg : o.guard = none) (s x : Operand) (hop : o.op = .call { callee := .builtin .append, args := #[s, x], argTypes := #[61, 61] })
  (B : Nat) (hB : B ≤ w.heap.size) (v vy : Value) (es : List (List Value)) (ad : Addr) (cap : Nat) (hs : a.eval s = v) (hx : a.eval x = vy) (hown : w.ownsRow B 64 5 v 0 []) (hy : vy = .slice (some ad) es.length cap)
  (h6 : ∀ j u, es.flatten[j]? = some u → w.cell? (ad.add j) = some u) (h5 : ∀ t, t < es.length → (el es t).length = 5) (h1 : ∀ u ∈ es.flatten, u.oneCell' = true) (hn : es.length ≤ 1000)
  (hK : ∀ v' w', OwR B w' v' 64 5 es → Below B w w' → wpList Try.prog ops Q rest (a.put o.dst v') w') :
  wpList Try.prog ops Q (o :: rest) a w := by
 obtain ⟨i0, hi, hz0, hz1, hz2⟩ := info_parts info_op
 subst hy
 refine wpList_append_own _ hg s x 61 hop B 64 i0 _ 5 56 Try.underlying61 hi hz0 hz1 hz2 rfl (by decide) v 0 [] hs hown ad es.length cap es.flatten hx (flat_len h5) h6 h1 (by simp only [maxLen]; omega) (by omega) hB fun v' w' O1 G1 _ => ?_
 rw [List.nil_append, Nat.zero_add] at O1
 exact hK v' w' ⟨O1, h5⟩ ((Below.refl B w).grown G1 hB fun k hk => (World.ownsRow.lt hown k hk).1)
theorem cloneO_any (v : Value) (ess : List (List Value)) (w : World) (h : Rws w v 5 ess) (h1 : ∀ u ∈ ess.flatten, u.oneCell' = true) (hl : ess.length ≤ 1000) :
  Calls Try.prog 49 #[v] w fun e w' => ∃ v', e = .returned v' ∧ OwR w.heap.size w' v' 64 5 ess ∧ Below w.heap.size w w' := by
 have H1 := hdH (h1)
 obtain ⟨ao, cap, rfl, a1, a2, a3, a4, a5⟩ := h
 clear h1
 cases ao with
 | none =>
  have hc := a3 rfl
  subst hc
  have e : ess = [] := List.eq_nil_of_length_eq_zero (by omega)
  subst e
  have qn : ∀ w : World, (binOp .eql 61 (.slice none 0 0) (.slice none 0 0)).run Try.prog w = .ok (.bool true) w := fun w => Lib.run_eql_slice_nil w _ _ none 0 0 0 0 Try.underlying61
  clear a1 a2 a3 a4 a5 H1
  go_enter Try.func49, Try.ntmps49
  go_wp2
  go_ret
  exact ⟨_, rfl, OwR.nil _ _ _ _, Below.refl _ _⟩
 | some ad =>
  have H5 : Hid (∀ j u, ess.flatten[j]? = some u → w.cell? (ad.add j) = some u) := fun j u hj => by
   have hjl : j < ess.length * 5 := by rw [← flat_len a4]; exact (List.getElem?_eq_some_iff.1 hj).1
   obtain ⟨b, off, e, hc⟩ := a5 (by omega)
   cases e
   have e2 : j = j / 5 * 5 + j % 5 := by omega
   rw [e2, flat_get a4 (j / 5) (j % 5) (by omega) (by omega)] at hj
   have := hc (j / 5) (by omega) (j % 5) u hj
   rw [Addr.add_mid, show off + j = off + j / 5 * 5 + j % 5 by omega]
   exact this
  have H4 := hdH (a4)
  have HO : Hid ((w.alloc (.cells #[] 64)).ownsRow w.heap.size 64 5 (.slice (some ⟨w.heap.size, 0, none⟩) 0 0) 0 []) := World.ownsRow_made w #[] 0 (Nat.le_refl _) (by simp [maxLen]) (by simp)
  have B0 : Below w.heap.size w (w.alloc (.cells #[] 64)) := (Below.refl _ _).alloc (Nat.le_refl _) _
  have H6 : Hid (∀ j u, ess.flatten[j]? = some u → (w.alloc (.cells #[] 64)).cell? (ad.add j) = some u) := fun j u hj => by
   have := H5.out j u hj
   rw [B0.cell (World.block_lt_of_cell? w _ this)]
   exact this
  have z0 := B0.size
  have qn : ∀ w : World, (binOp .eql 61 (.slice (some ad) ess.length cap) (.slice none 0 0)).run Try.prog w = .ok (.bool false) w := fun w => Lib.run_eql_slice_nil w _ _ (some ad) ess.length cap 0 0 Try.underlying61
  clear a3 a4 a5
  go_enter Try.func49, Try.ntmps49
  go_wp2_with (refine pushO_law _ rfl (.tmp 5) (.tmp 6) rfl w.heap.size z0 _ _ ess ad cap rfl rfl HO.out rfl H6.out H4.out H1.out hl ?_; intro v1 w1 O1 b1; have HO1 := hdH (O1); have C1 : Below w.heap.size w w1 := B0.trans b1; clear O1 b1)
  go_ret
  exact ⟨_, rfl, HO1.out, C1⟩
theorem zero_op : (Try.prog.info? 64).map (fun i => (i.zero, i.size)) = some (some (.agg ([.int .i64 0, .int .i64 0, .int .i64 0, .slice none 0 0, .int .i64 0] : List Value).toArray), 5) := by kernel_rfl
theorem own_ro5 {B : Nat} {w : World} {v : Value} {tr : List Opn} {dv : Nat → Value} (h : OwR B w v 64 5 (opcs tr dv)) : ∃ ao cap g, v = .slice ao tr.length cap ∧ tr.length ≤ cap ∧ cap ≤ 9223372036854775807 ∧ (ao = none → cap = 0) ∧ (0 < tr.length → ao = some ⟨g, 0, none⟩ ∧ B ≤ g) ∧ Ro5 w g tr.length tr dv := by
 have hx := h
 rcases h.1.2 with ⟨rfl, hn⟩ | ⟨g, cap, cur, rfl, hg, hh, hc, hm, hs, ht⟩
 ·rw [opcs_len] at hn
  exact ⟨none, 0, 0, by rw [hn], by omega, by omega, fun _ => rfl, fun hp => by omega, fun i hi => by omega⟩
 ·rw [opcs_len] at hc ⊢
  refine ⟨some ⟨g, 0, none⟩, cap, g, rfl, hc, by simpa [maxLen] using hm, (by intro e; cases e), fun _ => ⟨rfl, hg⟩, fun i hi => ?_⟩
  obtain ⟨g', cap', e', _, hr⟩ := hx.row (by rw [opcs_len]; omega)
  cases e'
  have := hr i (by rw [opcs_len]; exact hi)
  rw [opcs_el _ _ _ hi] at this
  exact this
theorem trace_any (c : Nat) (tv : Value) (tr : List Opn) (w : World) (h : w.cell? ⟨c, 10, none⟩ = some tv) (hO : Opr w tv tr) (hl : tr.length ≤ 1000) (hd : ∀ i, i < tr.length → (gO tr i).2.2.2.1.length ≤ 140737488355328) :
  Calls Try.prog 26 #[.pointer (some ⟨c, 0, none⟩)] w fun e w' => ∃ v', e = .returned v' ∧ Opr w' v' tr ∧ Below w.heap.size w w' := by
 obtain ⟨dv, hr, hb⟩ := hO
 have SC : Hid (Calls Try.prog 49 #[tv] w fun e w' => ∃ v', e = .returned v' ∧ OwR w.heap.size w' v' 64 5 (opcs tr dv) ∧ Below w.heap.size w w') := cloneO_any tv _ w hr (opcs_one fun i hi => byt_one_cell (hb i hi)) (by rw [opcs_len]; exact hl)
 have HD := hdH (hd)
 have HBY := hdH (hb)
 obtain ⟨ao0, cap0, rfl⟩ := hr.form
 rw [opcs_len] at SC h
 clear hr hb hd
 have t0 := tR
 go_enter Try.func26, Try.ntmps26
 go_wp2_with (have q0 := t0; go_at_call 49; refine SC.out.mono ?_; rintro e w1 ⟨v1, rfl, y1, B1⟩; obtain ⟨ao, cap, g, rfl, a1, a2, a3, a4, a5⟩ := own_ro5 y1; have HA : Hid ((ao = none → cap = 0) ∧ (0 < tr.length → ao = some ⟨g, 0, none⟩ ∧ w.heap.size ≤ g)) := ⟨a3, a4⟩; have HC1 : Hid (∃ dn, Ro5 w1 g tr.length tr dn ∧ ∀ i, i < tr.length → Byt w1 (dn i) (gO tr i).2.2.2.1) := ⟨dv, a5, fun i hi => (HBY.out i hi).below B1⟩; have HB1 := hdH (B1); clear y1 a3 a4 a5 B1 t0 HBY SC h)
 go_loopw [15] (fun i wr => ∃ k : Nat, k ≤ tr.length ∧ i = .int .i64 k ∧ Hid (∃ dn, Ro5 wr g tr.length tr dn ∧ ∀ i, i < tr.length → Byt wr (dn i) (gO tr i).2.2.2.1) ∧ Hid (Below w.heap.size w wr)) (fun i _ => tr.length - (intOf i).toNat)
 case atStart => exact ⟨0, Nat.zero_le _, rfl, HC1, HB1⟩
 case round =>
  clear HC1 HB1
  obtain ⟨k, hk, rfl, HC, HB⟩ := hrel
  obtain ⟨wa, rfl⟩ : ∃ wx, wx = wr := ⟨_, rfl⟩
  have k0 : (0 : Int) ≤ (k : Int) := by omega
  by_cases hlt : k < tr.length
  ·obtain ⟨dn, hR, hY⟩ := HC.out
   have HR := hdH (hR)
   have HY := hdH (hY)
   have k1 : (k : Int) < (tr.length : Int) := by omega
   obtain ⟨hao, hgB⟩ := HA.out.2 (by omega)
   have HG : Hid (w.heap.size ≤ g) := hgB
   subst hao
   have hf := (hR k hlt).1
   have hyk := hY k hlt
   have hdk := HD.out k hlt
   obtain ⟨⟨x0, x1, x2, xd, x4⟩, ho⟩ : ∃ o, gO tr k = o := ⟨_, rfl⟩
   have HE := hdH (ho)
   rw [ho] at hf hyk hdk
   obtain ⟨mo, mc, hm⟩ := byt_form hyk
   have HM := hdH (hm)
   rw [hm] at hf hyk
   have HF := hdH (hf)
   have lg : Hid (g < wa.heap.size) := range_lt hf (Nat.succ_pos _)
   have S : Hid (∀ w0, Below wa.heap.size wa w0 → Calls Try.prog 46 #[.slice mo xd.length mc] w0 fun e w' => ∃ v', e = .returned v' ∧ Bow w0.heap.size w' v' xd ∧ Below w0.heap.size w0 w') := fun w0 hb => bclone_any _ xd w0 (hyk.below hb) hdk
   clear hf hyk hdk ho hm hR hY HC hgB
   have f0 : wa.cell? ⟨g, k * 5, none⟩ = some (.int .i64 x0) := HF.out 0 _ rfl
   have f1 : wa.cell? ⟨g, k * 5 + 1, none⟩ = some (.int .i64 x1) := HF.out 1 _ rfl
   have f2 : wa.cell? ⟨g, k * 5 + 2, none⟩ = some (.int .i64 x2) := HF.out 2 _ rfl
   have f3 : wa.cell? ⟨g, k * 5 + 3, none⟩ = some (.slice mo xd.length mc) := HF.out 3 _ rfl
   have f4 : wa.cell? ⟨g, k * 5 + 4, none⟩ = some (.int .i64 x4) := HF.out 4 _ rfl
   have t2 := tR
   go_wp2_with (first
    | (have q5 := t5; (with_reducible refine at_store ?_); refine store_law1 _ g (k * 5 + 3) (.slice ao6 xd.length cap6) rfl rfl (HT6.out.2 3 (by omega)).1 (HT6.out.2 3 (by omega)).2 one_bytes.2 rfl rfl ?_; intro w7 E7; clear t5)
    | (have q4 := t4; go_at_call 46; refine (S.out _ BA.out).mono ?_; rintro e w6 ⟨m6, rfl, y6, B6⟩; obtain ⟨ao6, cap6, rfl⟩ := byt_form y6.1
       have Y6 : Hid (Byt w6 (.slice ao6 xd.length cap6) xd) := y6.1
       have BA := bT BA B6
       have HT6 : Hid (w6.rangeAt g (k * 5) (opc (gO tr k) (dn k)) ∧ w6.there g (k * 5) 5) := (HR.out.heap (BA.out.block g lg.out)) k hlt
       clear y6 t4 B6 v3; have t5 : (5 : Nat) = 5 := rfl)
    | (have q3 := t3; (with_reducible refine at_store ?_); refine store_lawC _ [.int .i64 x0, .int .i64 x1, .int .i64 x2, .slice mo xd.length mc, .int .i64 x4] wa.heap.size 0 rfl rfl HV2.out.2 rowy_op.2 (by simp [Value.oneCell']) ?_; intro w3 E3 A3 T3 B3; have HV3 : Hid (Vr w3 wa.heap.size [.int .i64 x0, .int .i64 x1, .int .i64 x2, .slice mo xd.length mc, .int .i64 x4]) := ⟨A3, T3⟩; have BA := hdH (BA.out.trans B3); have v3 := HV3.out.cell 3 _ rfl; clear E3 A3 T3 B3 t3; have t4 : (3 : Nat) = 3 := rfl)
    | (have q2 := t2; (with_reducible refine at_alloc ?_); refine new_lawC _ _ zero_op ?_; intro w2 V2 B2 l2; have HV2 := hdH (V2); have BA := hdH (B2); clear V2 B2 l2 t2 f0 f1 f2 f3 f4; have t3 : (2 : Nat) = 2 := rfl))
   have HC7 : Hid (∃ dn, Ro5 w7 g tr.length tr dn ∧ ∀ i, i < tr.length → Byt w7 (dn i) (gO tr i).2.2.2.1) := by
    have c6 : w6.cell? ⟨g, k * 5 + 3, none⟩ = some (.slice mo xd.length mc) := by have := HT6.out.1 3 _ rfl; rw [HM.out] at this; exact this
    refine ⟨at1 dn k (.slice ao6 xd.length cap6), ?_, fun i hi => ?_⟩
    ·rw [E7.out]; exact (HR.out.heap (BA.out.block g lg.out)).set hlt _
    ·by_cases e : i = k
     ·subst e
      rw [at1_same, HE.out, E7.out]
      exact byt_other Y6.out c6 (by intro x q; cases q)
     ·rw [at1_other _ _ _ _ e, E7.out]
      exact byt_other ((HY.out i hi).below BA.out) c6 (by intro x q; cases q)
   have HB7 : Hid (Below w.heap.size w w7) := by
    have b6 : Below w.heap.size w w6 := HB.out.trans (BA.out.mono HB.out.size)
    refine b6.trans ?_
    rw [E7.out]
    exact (Below.refl w.heap.size _).grown (keep_set _ _ _ _) b6.size (fun j e => by have e := Option.some.inj e; have := HG.out; omega)
   go_roundw
   case rel => exact ⟨k + 1, by omega, by go_num, HC7, HB7⟩
   case measure => simp [intOf]; omega
  ·have HR : Hid (Opr wa (.slice ao tr.length cap) tr) := by
    obtain ⟨dn, hR, hY⟩ := HC.out
    by_cases hp : 0 < tr.length
    ·obtain ⟨rfl, -⟩ := HA.out.2 hp
     exact hR.opr hY a1 a2
    ·have e : tr = [] := List.eq_nil_of_length_eq_zero (by omega)
     subst e
     exact ⟨dn, ⟨ao, cap, rfl, a1, a2, HA.out.1, fun t ht => by simp [opcs] at ht, fun q => by simp [opcs] at q⟩, fun i hi => by simp at hi⟩
   clear HC
   go_wp2
   go_ret
   exact ⟨_, rfl, HR.out, HB.out⟩
end Go.Proofs.Ytikcohjhhoiakaa.na
