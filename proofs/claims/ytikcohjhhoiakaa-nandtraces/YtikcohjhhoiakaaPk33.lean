/- Texts put together. -/
import Derived.Test.YtikcohjhhoiakaaPk32
set_option maxHeartbeats 8000000
namespace Go.Proofs.Ytikcohjhhoiakaa.na
open Go.RowKit Go.Proofs.Ytikcohjhhoiakaa.fa
set_option maxRecDepth 20000
theorem byt_kept {U U' : Nat → Bool} {w w' : World} {v : Value} {xs : List Int} (h : Byt (hid U w) v xs) (hk : ∀ k, k < w.heap.size → U k = false → U' k = false ∧ w'.heap[k]? = w.heap[k]?) : Byt (hid U' w') v xs := by
 obtain ⟨ao, cap, rfl, h1, h2, h3, h4, h5⟩ := h
 refine ⟨ao, cap, rfl, h1, h2, h3, h4, fun hp => ?_⟩
 obtain ⟨b, off, rfl, hc⟩ := h5 hp
 refine ⟨b, off, rfl, fun t ht => ?_⟩
 obtain ⟨z1, z2⟩ := hid_cell (hc t ht)
 have hb : b < w.heap.size := World.block_lt_of_cell? w _ z1
 obtain ⟨y1, y2⟩ := hk b hb z2
 exact cell_hid (by rw [World.cell?_of_block (w := w) (w' := w') (a := ⟨b, off + t, none⟩) y2]; exact z1) y1
theorem bow_kept {B : Nat} {w w' : World} {v : Value} {xs : List Int} (h : Bow B w v xs) (hk : ∀ k, B ≤ k → k < w.heap.size → w'.heap[k]? = w.heap[k]?) : Bow B w' v xs := by
 obtain ⟨⟨ao, cap, rfl, h1, h2, h3, h4, h5⟩, h6⟩ := h
 have key : 0 < xs.length → ∃ b off, ao = some ⟨b, off, none⟩ ∧ B ≤ b ∧ w'.heap[b]? = w.heap[b]? := fun hp => by
  obtain ⟨b, off, rfl, hc⟩ := h5 hp
  obtain ⟨b', off', cap', e, hB, -⟩ := h6 hp
  cases e
  exact ⟨b, off, rfl, hB, hk b hB (World.block_lt_of_cell? w _ (hc 0 hp))⟩
 refine ⟨⟨ao, cap, rfl, h1, h2, h3, h4, fun hp => ?_⟩, fun hp => ?_⟩
 ·obtain ⟨b, off, rfl, -, e⟩ := key hp
  obtain ⟨b', off', e', hc⟩ := h5 hp
  cases e'
  exact ⟨b, off, rfl, fun t ht => by rw [World.cell?_of_block (w := w) (w' := w') (a := ⟨b, off + t, none⟩) e]; exact hc t ht⟩
 ·obtain ⟨b, off, rfl, hB, e⟩ := key hp
  obtain ⟨b', off', cap', e', -, hf⟩ := h6 hp
  cases e'
  exact ⟨b, off, cap, rfl, hB, fun j hj => by rw [World.frozen?_of_block (w := w) (w' := w') (a := ⟨b, off + j, none⟩) e]; exact hf j hj⟩
theorem owr_heap {B : Nat} {w w' : World} {g n cap k : Nat} {e : TypeId} {ess : List (List Value)} (h : OwR B w (.slice (some ⟨g, 0, none⟩) n cap) e k ess) (he : w'.heap[g]? = w.heap[g]?) : OwR B w' (.slice (some ⟨g, 0, none⟩) n cap) e k ess := by
 obtain ⟨⟨h1, h2⟩, h3⟩ := h
 rcases h2 with ⟨q, -⟩ | ⟨g', cap', cur, q, hg, hh, hc, hm, hs, ht⟩
 ·cases q
 ·cases q
  exact ⟨⟨h1, Or.inr ⟨g, cap, cur, rfl, hg, by rw [he]; exact hh, hc, hm, hs, ht⟩⟩, h3⟩
def Wnt (M : Nat → Bool) (gW : Nat) (w : World) (B gV cp : Nat) (l : List Opn) : Prop :=
 (∃ dv : Nat → Value, OwR B w (.slice (some ⟨gV, 0, none⟩) l.length cp) 64 5 (opcs l dv) ∧ ∀ i, i < l.length → Byt (hid (uni M (two gW gV)) w) (dv i) (gO l i).2.2.2.1) ∧ NoU w gV ∧ M gV = false ∧ gV ≠ gW ∧ gV < w.heap.size ∧ B ≤ gV ∧ ∀ i, i < l.length → (gO l i).2.2.2.1.length ≤ 100000
theorem Wnt.keep {M M' : Nat → Bool} {gW : Nat} {w w' : World} {B gV cp : Nat} {l : List Opn} (h : Wnt M gW w B gV cp l) (hs : w.heap.size ≤ w'.heap.size) (hk : ∀ k, k < w.heap.size → M k = false → k ≠ gW → M' k = false ∧ w'.heap[k]? = w.heap[k]?) : Wnt M' gW w' B gV cp l := by
 obtain ⟨⟨dv, h1, h2⟩, h3, h4, h5, h6, h7, h8⟩ := h
 obtain ⟨y1, y2⟩ := hk gV h6 h4 h5
 refine ⟨⟨dv, owr_heap h1 y2, fun i hi => byt_kept (h2 i hi) fun k hk1 hk2 => ?_⟩, h3.heap y2, y1, h5, by omega, h7, h8⟩
 simp only [uni, two, Bool.or_eq_false_iff, decide_eq_false_iff_not] at hk2 ⊢
 obtain ⟨z1, z2⟩ := hk k hk1 hk2.1 hk2.2.1
 exact ⟨⟨z1, hk2.2⟩, z2⟩
theorem Wnt.below {M : Nat → Bool} {gW : Nat} {w w' : World} {B gV cp : Nat} {l : List Opn} (h : Wnt M gW w B gV cp l) (hb : Below w.heap.size w w') : Wnt M gW w' B gV cp l := h.keep hb.size fun k hk hm _ => ⟨hm, hb.block k hk⟩
theorem Wnt.new {M : Nat → Bool} {gW : Nat} {w : World} {B : Nat} (hM : Mlt M w) (hW : gW < w.heap.size) (hB : B ≤ w.heap.size) : Wnt M gW (w.alloc (.cells #[] 64)) B w.heap.size 0 [] :=
 ⟨⟨fun _ => .slice none 0 0, OwR.empty w 64 5 hB, fun i hi => by simp at hi⟩, ⟨[], _, _, heap_alloc_last w _, fun u hu => by simp at hu⟩, not_hid hM (Nat.le_refl _), by omega, by simp, hB, fun i hi => by simp at hi⟩
theorem Wnt.opr {M : Nat → Bool} {gW : Nat} {w : World} {B gV cp : Nat} {l : List Opn} (h : Wnt M gW w B gV cp l) : Opr w (.slice (some ⟨gV, 0, none⟩) l.length cp) l := by
 obtain ⟨⟨dv, h1, h2⟩, -⟩ := h
 exact ⟨dv, h1.rws, fun i hi => hid_byt (h2 i hi)⟩
theorem opcs_nou {l : List Opn} {dv : Nat → Value} (h : ∀ i, i < l.length → ∀ z, dv i ≠ .int .u8 z) : ∀ u ∈ (opcs l dv).flatten, ∀ z, u ≠ .int .u8 z := fun u hu z e => by
 subst e
 simp only [opcs, List.mem_flatten, List.mem_map, List.mem_range] at hu
 obtain ⟨t, ⟨j, hj, rfl⟩, hu⟩ := hu
 simp only [opc, List.mem_cons, List.not_mem_nil, or_false] at hu
 rcases hu with hu | hu | hu | hu | hu
 ·cases hu
 ·cases hu
 ·cases hu
 ·exact h j hj z hu.symm
 ·cases hu
theorem Wnt.push {M : Nat → Bool} {gW : Nat} {w : World} {B gV cp : Nat} {l : List Opn} {ty : TypeId} (h : Wnt M gW w B gV cp l) (hB : B ≤ w.heap.size) (hM : Mlt M w) (hW : gW < w.heap.size) (o : Opn) (dvn : Value) (ad : Addr) (c : Nat) (hr : Rws w (.slice (some ad) 1 c) 5 [opc o dvn]) (hb : Byt (hid (uni M (two gW gV)) w) dvn o.2.2.2.1) (hn : l.length ≤ 1000) (hd : o.2.2.2.1.length ≤ 100000) :
  ∃ gg cp' w', (Builtin.append_ #[61, 61] ty #[.slice (some ⟨gV, 0, none⟩) l.length cp, .slice (some ad) 1 c]).run Try.prog w = .ok (.slice (some ⟨gg, 0, none⟩) (l.length + 1) cp') w' ∧ Wnt M gW w' B gg cp' (l ++ [o]) ∧ w.grownBy w' (some gV) ∧ (gg = gV ∨ w.heap.size ≤ gg ∧ Below w.heap.size w w') := by
 obtain ⟨⟨dv, h1, h2⟩, h3, h4, h5, h6, h7, h8⟩ := h
 have hol := opcs_len l dv
 rw [← hol] at h1 ⊢
 have hb1 := byt_one_cell hb
 have hbu := byt_no_u8 hb
 obtain ⟨gg, cp', w', r1, r2, r3, r4, r5⟩ := run_appO (ty := ty) w B gV cp (opcs l dv) (opc o dvn) ad c h1 hB h3 (opcs_nou fun i hi z => byt_no_u8 (h2 i hi) z) hr (by
  intro u hu
  simp only [opc, List.mem_cons, List.not_mem_nil, or_false] at hu
  rcases hu with rfl | rfl | rfl | rfl | rfl
  ·rfl
  ·rfl
  ·rfl
  ·exact hb1
  ·rfl) (by
  intro u hu z e
  subst e
  simp only [opc, List.mem_cons, List.not_mem_nil, or_false] at hu
  rcases hu with hu | hu | hu | hu | hu
  ·cases hu
  ·cases hu
  ·cases hu
  ·exact hbu z hu.symm
  ·cases hu) (by rw [hol]; exact hn)
 have keyk : ∀ k, k < w.heap.size → uni M (two gW gV) k = false → uni M (two gW gg) k = false ∧ w'.heap[k]? = w.heap[k]? := fun k hk hu => by
  simp only [uni, two, Bool.or_eq_false_iff, decide_eq_false_iff_not] at hu ⊢
  refine ⟨⟨hu.1, hu.2.1, ?_⟩, r4.block k hk (by intro e; injection e with e; exact hu.2.2 e)⟩
  rcases r5 with rfl | ⟨z, -⟩
  ·exact hu.2.2
  ·omega
 refine ⟨gg, cp', w', r1, ⟨⟨fun i => if i < l.length then dv i else dvn, ?_, fun i hi => ?_⟩, r3, ?_, ?_, ?_, ?_, fun i hi => ?_⟩, r4, r5⟩
 ·rw [opcs_app, List.length_append, ← hol]; exact r2
 ·rw [List.length_append, List.length_singleton] at hi
  show Byt _ (if i < l.length then dv i else dvn) _
  by_cases q : i < l.length
  ·rw [if_pos q, gO_app _ _ _ q]; exact byt_kept (h2 i q) keyk
  ·have e : i = l.length := by omega
   rw [if_neg q, e, gO_last]; exact byt_kept hb keyk
 ·rcases r5 with rfl | ⟨z, -⟩
  ·exact h4
  ·exact not_hid hM z
 ·rcases r5 with rfl | ⟨z, -⟩
  ·exact h5
  ·omega
 ·rcases r5 with rfl | ⟨z, -⟩
  ·exact Nat.lt_of_lt_of_le h6 r4.size
  ·obtain ⟨cs, t, fr, z1, -⟩ := r3
   exact (Array.getElem?_eq_some_iff.1 z1).1
 ·rcases r5 with rfl | ⟨z, -⟩
  ·exact h7
  ·omega
 ·rw [List.length_append, List.length_singleton] at hi
  by_cases q : i < l.length
  ·rw [gO_app _ _ _ q]; exact h8 i q
  ·have e : i = l.length := by omega
   rw [e, gO_last]; exact hd
theorem pushW_law {ops : Array Oper} {rest : List Oper} {a : Act} {Q : Exit → Act → World → Prop} {d : Option Tmp} {s x : Operand} {ty : TypeId} {pos : String} {af : Array Edge} (w : World) {M : Nat → Bool} {gW B gV cp : Nat} {l : List Opn} (h : Wnt M gW w B gV cp l) (hB : B ≤ w.heap.size) (hM : Mlt M w) (hW : gW < w.heap.size) (o : Opn) (dvn : Value) (ad : Addr) (c : Nat) (hs : a.eval s = .slice (some ⟨gV, 0, none⟩) l.length cp) (hx : a.eval x = .slice (some ad) 1 c) (hr : Rws w (.slice (some ad) 1 c) 5 [opc o dvn]) (hb : Byt (hid (uni M (two gW gV)) w) dvn o.2.2.2.1) (hn : l.length ≤ 1000) (hd : o.2.2.2.1.length ≤ 100000)
  (hK : ∀ gg cp' w', Wnt M gW w' B gg cp' (l ++ [o]) → w.grownBy w' (some gV) → (gg = gV ∨ w.heap.size ≤ gg ∧ Below w.heap.size w w') → wpList Try.prog ops Q rest (a.put d (.slice (some ⟨gg, 0, none⟩) (l.length + 1) cp')) w') :
  wpList Try.prog ops Q (⟨d, .call { callee := .builtin .append, args := #[s, x], argTypes := #[61, 61] }, ty, pos, af, none⟩ :: rest) a w := by
 refine wpList_plain rfl fun K hK' => ?_
 obtain ⟨gg, cp', w', hrun, r1, r2, r3⟩ := h.push (ty := ty) hB hM hW o dvn ad c hr hb hn hd
 unfold Oper.wp
 simp [execOp, resolve, invoke, builtin, hs, hx, hrun, Result.andThen]
 exact hK' _ _ (hK gg cp' w' r1 r2 r3)
theorem Sim.push {M : Nat → Bool} {w w' : World} {c r d : Nat} {q : Nat → Nat} {pv : Value} {g : List Int} {N P S : Nat} {pl : Pln} {s : St} {l l' : List Opn} {v : Value} {gW gV gg B cp : Nat} (h : Sim M (two gW gV) w c r d q pv g N P S pl s l v) (hW : Wnt M gW w B gV cp l') (hg : w.grownBy w' (some gV)) (ho : gg = gV ∨ w.heap.size ≤ gg ∧ Below w.heap.size w w') : Sim M (two gW gg) w' c r d q pv g N P S pl s l v := by
 rcases ho with rfl | ⟨z1, z2⟩
 ·exact h.putE hW.2.1.nob hW.2.2.1 (by simp [two]) hg
 ·exact h.less.more z2 z1
theorem there_mid {w : World} {b n m : Nat} (h : w.there b 0 n) {p : Nat} (hp : p + m ≤ n := by simp) : w.there b p m := fun j hj => by
 have := h (p + j) (by omega)
 rw [Nat.zero_add] at this
 exact this
theorem rws_op (w : World) (cs : List Value) (hc : cs.length = 5) : Rws (w.alloc (.cells cs.toArray 64)) (.slice (some ⟨w.heap.size, 0, none⟩) 1 1) 5 [cs] := by
 refine ⟨_, 1, rfl, by simp, by omega, (by intro h; cases h), fun t ht => ?_, fun _ => ⟨w.heap.size, 0, rfl, fun t ht => ?_⟩⟩
 ·have : t = 0 := by simpa using ht
  subst this; exact hc
 ·have : t = 0 := by simpa using ht
  subst this
  have := (Vr.new w 64 cs).1
  simpa [el] using this
theorem at_case (fs : List (Int × Bool × Value)) (ms : Nat → List Int) (n : Nat) : (∃ t, Fst fs (n : Int) t ∧ ans (plnOf fs ms n) = if (gf fs t).2.1 then 4 else 5) ∨ ((∀ s, s < fs.length → (gf fs s).1 ≠ n) ∧ ans (plnOf fs ms n) = 0) := by
 obtain ⟨p1, p2⟩ := plnOf_is fs ms n
 rcases fst_or fs (n : Int) with ⟨t, ht⟩ | h
 ·refine Or.inl ⟨t, ht, ?_⟩
  rw [p1 t ht]
  rfl
 ·refine Or.inr ⟨h, ?_⟩
  rw [p2 h]
  rfl
theorem fst_only {fs : List (Int × Bool × Value)} {n : Int} {t s : Nat} (h : Fst fs n t) (h' : Fst fs n s) : t = s := by
 obtain ⟨a1, a2, a3⟩ := h
 obtain ⟨b1, b2, b3⟩ := h'
 rcases Nat.lt_trichotomy t s with z | z | z
 ·exact absurd a2 (b3 t z)
 ·exact z
 ·exact absurd b2 (a3 s z)
theorem at_some (fs : List (Int × Bool × Value)) (n : Int) : ∃ c : Int, (∀ t, Fst fs n t → c = t) ∧ ((∀ s, s < fs.length → (gf fs s).1 ≠ n) → c = -1) := by
 rcases fst_or fs n with ⟨t, ht⟩ | h
 ·exact ⟨t, fun s hs => by rw [fst_only ht hs], fun q => absurd ht.2.1 (q t ht.1)⟩
 ·exact ⟨-1, fun t ht => absurd ht.2.1 (h t ht.1), fun _ => rfl⟩
theorem fls_at {w : World} {po : Option Addr} {n pc : Nat} {fs : List (Int × Bool × Value)} (h : Fls w (.slice po n pc) fs) (t : Nat) (ht : t < fs.length) : ∃ pb pf, po = some ⟨pb, pf, none⟩ ∧ ∀ w', Below w.heap.size w w' → w'.cell? ⟨pb, pf + t * 3 + 1, none⟩ = some (.bool (gf fs t).2.1) := by
 obtain ⟨ao, cap, e, -, -, -, h5⟩ := h
 cases e
 obtain ⟨b, off, rfl, hc⟩ := h5 (by omega)
 refine ⟨b, off, rfl, fun w' hb => ?_⟩
 have := (hc t ht).2.1
 rw [World.cell?_of_block (w := w) (w' := w') (a := ⟨b, off + t * 3 + 1, none⟩) (hb.block b (World.block_lt_of_cell? w _ this))]
 exact this
theorem sim_trace {M E : Nat → Bool} {w : World} {c r d : Nat} {q : Nat → Nat} {pv : Value} {g : List Int} {N P S : Nat} {pl : Pln} {s : St} {l : List Opn} {v : Value} (h : Sim M E w c r d q pv g N P S pl s l v) (hl : l.length ≤ 1000) (hd : ∀ i, i < l.length → (gO l i).2.2.2.1.length ≤ 100000) : Calls Try.prog 26 #[.pointer (some ⟨c, 0, none⟩)] w fun e w' => ∃ v', e = .returned v' ∧ Opr w' v' l ∧ Below w.heap.size w w' := by
 obtain ⟨tv, h1, -⟩ := h
 have ht : Trv M w tv (xt (raw N P s l)) := h1.2.2.2.2.2.2.2.1
 rw [raw_t] at ht
 obtain ⟨dv, t1, t2, -⟩ := ht
 exact trace_any c tv l w h1.cells.2.2.2.2 ⟨dv, t1.rws, fun i hi => hid_byt (t2 i hi)⟩ hl (fun i hi => Nat.le_trans (hd i hi) (by omega))
theorem opr_form {w : World} {v : Value} {tr : List Opn} (h : Opr w v tr) : ∃ ao cap, v = .slice ao tr.length cap := by
 obtain ⟨dv, h, -⟩ := h
 have := h.form
 rw [opcs_len] at this
 exact this
theorem opr_all {w : World} {ao : Option Addr} {n cap : Nat} {tr : List Opn} (h : Opr w (.slice ao n cap) tr) (hp : 0 < tr.length) : ∃ b off, ∃ dv : Nat → Value, ao = some ⟨b, off, none⟩ ∧ ∀ i, i < tr.length → ∀ w', Below w.heap.size w w' → w'.rangeAt b (off + i * 5) (opc (gO tr i) (dv i)) ∧ Byt w' (dv i) (gO tr i).2.2.2.1 := by
 obtain ⟨dv, ⟨ao', cap', e, -, -, -, -, h6⟩, h7⟩ := h
 cases e
 rw [opcs_len] at h6
 obtain ⟨b, off, rfl, hc⟩ := h6 hp
 refine ⟨b, off, dv, rfl, fun i hi w' hb => ?_⟩
 have := hc i hi
 rw [opcs_el _ _ _ hi] at this
 exact ⟨range_heap this (hb.block b (range_lt this (by simp [opc]))), (h7 i hi).below hb⟩
theorem cnts_take {l : List Opn} {m : Nat} (h : m < l.length) (b p : Int) : cnts (l.take (m + 1)) b p = cnt b p (cnts (l.take m) b p) (gO l m) := by
 have e : l.take (m + 1) = l.take m ++ [gO l m] := by
  rw [List.take_succ_eq_append_getElem h]
  simp [gO, List.getD, h]
 rw [e, cnts_snoc]
theorem cnts_le (b p : Int) (l : List Opn) : ∀ m, m ≤ l.length → 0 ≤ cnts (l.take m) b p ∧ cnts (l.take m) b p ≤ m := fun m => by
 induction m with
 | zero => intro _; simp [cnts]
 | succ m ih =>
  intro h
  have := ih (by omega)
  rw [cnts_take (by omega)]
  unfold cnt
  split <;> split <;> omega
theorem two2_at {l : List Opn} (h : Two2 l) {j : Nat} (hj : j < l.length) (h1 : (gO l j).1 = 1) : cnts (l.take (j + 1)) (gO l j).2.1 (gO l j).2.2.1 ≤ 2 := h j (gO l j) (by simp [gO, List.getD, hj]) h1
theorem nK5 {w : World} {c : Nat} {a0 a1 a2 a3 a4 : Value} {cs : List Value} (h : Vr w c (a0 :: a1 :: a2 :: a3 :: a4 :: cs)) : w.cell? ⟨c, 0, none⟩ = some a0 ∧ w.cell? ⟨c, 1, none⟩ = some a1 ∧ w.cell? ⟨c, 2, none⟩ = some a2 ∧ w.cell? ⟨c, 3, none⟩ = some a3 ∧ w.cell? ⟨c, 4, none⟩ = some a4 := ⟨h.cell 0 _ rfl, h.cell 1 _ rfl, h.cell 2 _ rfl, h.cell 3 _ rfl, h.cell 4 _ rfl⟩
theorem nK8 {w : World} {c : Nat} {a0 a1 a2 a3 a4 a5 a6 a7 : Value} {cs : List Value} (h : Vr w c (a0 :: a1 :: a2 :: a3 :: a4 :: a5 :: a6 :: a7 :: cs)) : w.cell? ⟨c, 0, none⟩ = some a0 ∧ w.cell? ⟨c, 1, none⟩ = some a1 ∧ w.cell? ⟨c, 2, none⟩ = some a2 ∧ w.cell? ⟨c, 3, none⟩ = some a3 ∧ w.cell? ⟨c, 4, none⟩ = some a4 ∧ w.cell? ⟨c, 5, none⟩ = some a5 ∧ w.cell? ⟨c, 6, none⟩ = some a6 ∧ w.cell? ⟨c, 7, none⟩ = some a7 := ⟨h.cell 0 _ rfl, h.cell 1 _ rfl, h.cell 2 _ rfl, h.cell 3 _ rfl, h.cell 4 _ rfl, h.cell 5 _ rfl, h.cell 6 _ rfl, h.cell 7 _ rfl⟩
theorem nK10 {w : World} {c : Nat} {a0 a1 a2 a3 a4 a5 a6 a7 a8 a9 : Value} {cs : List Value} (h : Vr w c (a0 :: a1 :: a2 :: a3 :: a4 :: a5 :: a6 :: a7 :: a8 :: a9 :: cs)) : w.cell? ⟨c, 0, none⟩ = some a0 ∧ w.cell? ⟨c, 1, none⟩ = some a1 ∧ w.cell? ⟨c, 2, none⟩ = some a2 ∧ w.cell? ⟨c, 3, none⟩ = some a3 ∧ w.cell? ⟨c, 4, none⟩ = some a4 ∧ w.cell? ⟨c, 5, none⟩ = some a5 ∧ w.cell? ⟨c, 6, none⟩ = some a6 ∧ w.cell? ⟨c, 7, none⟩ = some a7 ∧ w.cell? ⟨c, 8, none⟩ = some a8 ∧ w.cell? ⟨c, 9, none⟩ = some a9 := ⟨h.cell 0 _ rfl, h.cell 1 _ rfl, h.cell 2 _ rfl, h.cell 3 _ rfl, h.cell 4 _ rfl, h.cell 5 _ rfl, h.cell 6 _ rfl, h.cell 7 _ rfl, h.cell 8 _ rfl, h.cell 9 _ rfl⟩
theorem nlt {w : World} {c : Nat} {a : Value} {cs : List Value} (h : Vr w c (a :: cs)) : c < w.heap.size := range_lt h.1 (Nat.succ_pos _)
def Fz (w : World) (vb p q : Nat) (x0 x1 x2 z0 z1 z2 z4 : Int) : Prop := w.cell? ⟨vb, p, none⟩ = some (.int .i64 x0) ∧ w.cell? ⟨vb, p + 1, none⟩ = some (.int .i64 x1) ∧ w.cell? ⟨vb, p + 2, none⟩ = some (.int .i64 x2) ∧ w.cell? ⟨vb, q, none⟩ = some (.int .i64 z0) ∧ w.cell? ⟨vb, q + 1, none⟩ = some (.int .i64 z1) ∧ w.cell? ⟨vb, q + 2, none⟩ = some (.int .i64 z2) ∧ w.cell? ⟨vb, q + 4, none⟩ = some (.int .i64 z4)
theorem fz_drawn {y1 w : World} {vb p q : Nat} {x0 x1 x2 z0 z1 z2 z4 : Int} (h : Hid (Below y1.heap.size y1 w)) (f : Fz w vb p q x0 x1 x2 z0 z1 z2 z4) (n : Nat) : ∃ w', w.drewN n = w' ∧ Hid (Below y1.heap.size y1 w') ∧ Fz w' vb p q x0 x1 x2 z0 z1 z2 z4 := ⟨_, rfl, below_drawn h.out n, f⟩
theorem zero_step : (Try.prog.info? 45).map (fun i => (i.zero, i.size)) = some (some (.agg ([.int .i64 0, .int .i64 0, .int .i64 0, .int .u8 0, .bool false] : List Value).toArray), 5) := by kernel_rfl
theorem hdh {p : Prop} (h : p) : Hid p := h
theorem eql_place {z1 z2 x1 x2 : Int} (h : ¬ (z1 = x1 ∧ z2 = x2)) (w : World) : (binOp .eql 43 (.agg #[.int .i64 z1, .int .i64 z2]) (.agg #[.int .i64 x1, .int .i64 x2])).run Try.prog w = .ok (.bool false) w := by
 by_cases h1 : z1 = x1
 ·have h2 : ¬ z2 = x2 := fun q => h ⟨h1, q⟩
  go_simp
 ·go_simp
theorem wnt_run {M M' : Nat → Bool} {W B gV cp : Nat} {w w1 w2 : World} {l : List Opn} (h : Wnt M W w B gV cp l) (hb : Below w.heap.size w w1) (hs : w1.heap.size ≤ w2.heap.size) (hA : ∀ k, k < w1.heap.size → M' k = M k) (hF : ∀ k, k < w1.heap.size → M k = false → w2.heap[k]? = w1.heap[k]?) : Hid (Wnt M' W w2 B gV cp l) :=
 h.keep (Nat.le_trans hb.size hs) (fun k hk hm _ => ⟨by rw [hA k (Nat.lt_of_lt_of_le hk hb.size)]; exact hm, (hF k (Nat.lt_of_lt_of_le hk hb.size) hm).trans (hb.block k hk)⟩)
theorem wnt_put {M : Nat → Bool} {W B gV cp : Nat} {w w' : World} {l : List Opn} (h : Wnt M W w B gV cp l) (K : w.grownBy w' (some W)) : Wnt M W w' B gV cp l :=
 h.keep K.size (fun k hk hm hw => ⟨hm, K.block k hk (by intro e; injection e with e; exact hw e)⟩)
theorem vr_one {w w' : World} {c j : Nat} {cs : List Value} {u : Value} (e : Hid (w' = w.setCell ⟨c, j, none⟩ u)) (h : Hid (Vr w c cs)) (hj : j < cs.length) : Hid (Vr w' c (cs.set j u)) := by rw [e.out]; exact h.out.set j hj u
theorem below_one {x w w' : World} {j : Nat} {u : Value} (e : Hid (w' = w.setCell ⟨x.heap.size, j, none⟩ u)) (h : Hid (Below x.heap.size x w)) : Hid (Below x.heap.size x w') := h.out.trans (by rw [e.out]; exact (Below.refl x.heap.size _).grown (keep_set _ _ _ _) h.out.size (fun j e => Nat.le_of_eq (Option.some.inj e)))
theorem bow_one {w w' : World} {g j B : Nat} {u v : Value} {xs : List Int} (e : Hid (w' = w.setCell ⟨g, j, none⟩ u)) (hg : g < B) (h : Hid (Bow B w v xs)) : Hid (Bow B w' v xs) := by
 rw [e.out]; exact bow_kept h.out (fun k h1 _ => Below.heap_setCell _ _ _ k (by show k ≠ g; omega))
def Ltr (w : World) (B gW : Nat) (CS : List Value) (c r d : Nat) (q : Nat → Nat) (pv : Value) (N P S : Nat) (g2 g3 g4 g5 : Int) (pl : Pln) (k : Nat) (v : Value) (wr : World) : Prop :=
 ∃ M s l bq bc po pn pc gV cp, v = .slice (some ⟨gV, 0, none⟩) (l : List Opn).length cp ∧ Sim M (two gW gV) wr c r d q pv [(N : Int), P, g2, g3, g4, g5] N P S pl s l (.agg (chr [(N : Int), P, g2, g3, g4, g5] (.slice bq N bc) (.slice po pn pc) (off s) (ops s : Int)).toArray) ∧ Vr wr gW (chr [(N : Int), P, g2, g3, g4, g5] (.slice bq N bc) (.slice po pn pc) (off s) (ops s : Int)) ∧ NoB wr gW ∧ Vr wr w.heap.size CS ∧ Inv N P S s l ∧ ops s ≤ k ∧ (∀ j, M j = true → B ≤ j) ∧ M gW = false ∧ Wnt M gW wr B gV cp l ∧ Below w.heap.size w wr
def Box (p : Prop) : Prop := ∀ u : Fin 7, u = 3 → p
end Go.Proofs.Ytikcohjhhoiakaa.na
