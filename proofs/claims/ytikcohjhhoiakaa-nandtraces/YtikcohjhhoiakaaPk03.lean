/- Texts put together. -/
import Derived.Test.YtikcohjhhoiakaaPk02
import Derived.Test.YtikcohjhhoiakaaPk01
set_option maxHeartbeats 8000000
namespace Go.Proofs.Ytikcohjhhoiakaa.fa
open Go.RowKit
set_option maxRecDepth 20000
theorem rright_any (v : Value) (fs : List (Int × Bool × Value)) (ms : Nat → List Int) (w : World) (h : Fls w v fs) (hm : Mks w fs ms) (c : Bool) (h0 : c = true ↔ (fs.length ≤ 64 ∧ Okp fs ms fs.length)) :
  Calls Try.prog 10 #[v] w fun e w' => e = .returned (.bool c) ∧ ∃ n, w' = w.drewN n := by
 obtain ⟨ao, cap, rfl, a1, a2, a3, a4⟩ := h
 have HM := hdH (hm)
 have H0 := hdH (h0)
 have H4 := hdH (a4)
 clear hm h0 a3 a4
 go_enter Try.func10, Try.ntmps10
 go_wp2
 go_loopw [3] (fun i wr => ∃ k n : Nat, k ≤ fs.length ∧ i = .int .i64 k ∧ Hid (Okp fs ms k) ∧ wr = w.drewN n) (fun i _ => fs.length - (intOf i).toNat)
 case atStart => exact ⟨0, 0, Nat.zero_le _, rfl, fun t ht => by omega, rfl⟩
 case round =>
  obtain ⟨k, n, hk, rfl, HK, rfl⟩ := hrel
  have k0 : (0 : Int) ≤ (k : Int) := by omega
  by_cases hlt : k < fs.length
  ·have k1 : (k : Int) < (fs.length : Int) := by omega
   obtain ⟨b, off, rfl, hc⟩ := H4.out (by omega)
   obtain ⟨x, cr, mo, mc, hf⟩ := split_flt HM.out hlt
   have hfa : FlA w b (off + k * 3) (gf fs k) := hc k hlt
   have HX : Hid ((gf fs k).1 = x) := by show _ = _; rw [hf]
   rw [hf] at hfa
   have c0 := hfa.1
   have c2 := hfa.2.2
   have HL : Hid ((ms k).length ≤ 9223372036854775807) := (HM.out k hlt).1.len
   have LL : ((ms k).length : Int) ≤ 9223372036854775807 := by have := HL.out; omega
   have HK1 : Hid (0 ≤ x → (ms k).length ≤ 64 → Okp fs ms (k + 1)) := fun q1 q2 => okp_more HK.out (by rw [HX.out]; exact q1) q2
   have HN : Hid (¬ (0 ≤ x ∧ (ms k).length ≤ 64) → c = false) := fun q => Bool.eq_false_iff.2 fun hc => q (by have := (H0.out.1 hc).2 k hlt; rw [HX.out] at this; exact this)
   clear hc hf hfa
   generalize (ms k).length = L at *
   by_cases hx : x < 0
   ·have e := HN.out (by omega)
    subst e
    go_wp2
    go_ret
    exact ⟨rfl, n, rfl⟩
   ·by_cases hL : 64 < L
    ·have e := HN.out (by omega)
     subst e
     have L1 : (64 : Int) < (L : Int) := by omega
     go_wp2
     go_ret
     exact ⟨rfl, n, rfl⟩
    ·have HK2 : Hid (Okp fs ms (k + 1)) := HK1.out (by omega) (by omega)
     have L1 : (L : Int) ≤ 64 := by omega
     go_wp2
     go_roundw
     case rel => exact ⟨k + 1, n, by omega, by go_num, HK2, rfl⟩
     case measure => simp [intOf]; omega
  ·have e : k = fs.length := by omega
   have HE : Hid (c = decide ((fs.length : Int) ≤ 64)) := by
    show _ = _
    have hk2 := HK.out
    rw [e] at hk2
    by_cases q : fs.length ≤ 64
    ·rw [H0.out.2 ⟨q, hk2⟩]; exact (decide_eq_true (by omega)).symm
    ·rw [Bool.eq_false_iff.2 fun hc => q (H0.out.1 hc).1]; exact (decide_eq_false (by omega)).symm
   go_wp2
   go_ret
   exact ⟨ret_bool HE.out.symm, n, rfl⟩
def Fst (fs : List (Int × Bool × Value)) (n : Int) (t : Nat) : Prop := t < fs.length ∧ (gf fs t).1 = n ∧ ∀ s, s < t → (gf fs s).1 ≠ n
theorem fst_or (fs : List (Int × Bool × Value)) (n : Int) : (∃ t, Fst fs n t) ∨ ∀ s, s < fs.length → (gf fs s).1 ≠ n := by
 have key : ∀ k, k ≤ fs.length → (∃ t, Fst fs n t) ∨ ∀ s, s < k → (gf fs s).1 ≠ n := fun k => by
  induction k with
  | zero => exact fun _ => Or.inr fun s hs => by omega
  | succ k ih =>
   intro hk
   rcases ih (by omega) with h | h
   ·exact Or.inl h
   ·by_cases e : (gf fs k).1 = n
    ·exact Or.inl ⟨k, hk, e, h⟩
    ·refine Or.inr fun s hs => ?_
     by_cases q : s < k
     ·exact h s q
     ·have : s = k := by omega
      subst this; exact e
 exact key _ (Nat.le_refl _)
theorem rat_any (v : Value) (fs : List (Int × Bool × Value)) (n : Int) (w : World) (h : Fls w v fs) (c : Int) (h0 : ∀ t, Fst fs n t → c = t) (h1 : (∀ s, s < fs.length → (gf fs s).1 ≠ n) → c = -1) :
  Calls Try.prog 24 #[v, .int .i64 n] w fun e w' => e = .returned (.int .i64 c) ∧ ∃ n, w' = w.drewN n := by
 obtain ⟨ao, cap, rfl, a1, a2, a3, a4⟩ := h
 have H0 := hdH (h0)
 have H1 := hdH (h1)
 have H4 := hdH (a4)
 clear h0 h1 a3 a4
 go_enter Try.func24, Try.ntmps24
 go_wp2
 go_loopw [5] (fun i wr => ∃ k m : Nat, k ≤ fs.length ∧ i = .int .i64 k ∧ Hid (∀ s, s < k → (gf fs s).1 ≠ n) ∧ wr = w.drewN m) (fun i _ => fs.length - (intOf i).toNat)
 case atStart => exact ⟨0, 0, Nat.zero_le _, rfl, fun t ht => by omega, rfl⟩
 case round =>
  obtain ⟨k, m, hk, rfl, HK, rfl⟩ := hrel
  have k0 : (0 : Int) ≤ (k : Int) := by omega
  by_cases hlt : k < fs.length
  ·have k1 : (k : Int) < (fs.length : Int) := by omega
   obtain ⟨b, off, rfl, hc⟩ := H4.out (by omega)
   obtain ⟨x, hx⟩ : ∃ x, (gf fs k).1 = x := ⟨_, rfl⟩
   have c0 := (hc k hlt).1
   rw [hx] at c0
   have HX := hdH (hx)
   clear hc hx
   by_cases e : x = n
   ·subst e
    have e2 := H0.out k ⟨hlt, HX.out, HK.out⟩
    subst e2
    go_wp2
    go_ret
    exact ⟨rfl, m, rfl⟩
   ·have e2 : (x == n) = false := by simpa using e
    have HK2 : Hid (∀ s, s < k + 1 → (gf fs s).1 ≠ n) := fun s hs => by
     by_cases q : s < k
     ·exact HK.out s q
     ·have : s = k := by omega
      subst this; rw [HX.out]; exact e
    go_wp2
    go_roundw
    case rel => exact ⟨k + 1, m, by omega, by go_num, HK2, rfl⟩
    case measure => simp [intOf]; omega
  ·have e : k = fs.length := by omega
   have e2 := H1.out (by rw [← e]; exact HK.out)
   subst e2
   go_wp2
   go_ret
   exact ⟨rfl, m, rfl⟩
def AtIs (fs : List (Int × Bool × Value)) (ms : Nat → List Int) (n : Int) (w : World) (e : Ending) (w' : World) : Prop := ∃ f ok, e = .returned (.tuple #[fv f, .bool ok]) ∧ Below w.heap.size w w' ∧ (∀ t, Fst fs n t → ok = true ∧ f.1 = n ∧ f.2.1 = (gf fs t).2.1 ∧ Byt w' f.2.2 (ms t)) ∧ ((∀ s, s < fs.length → (gf fs s).1 ≠ n) → ok = false ∧ f = f0)
theorem at_any (v : Value) (fs : List (Int × Bool × Value)) (ms : Nat → List Int) (n : Int) (w : World) (h : Fls w v fs) (hm : Mks w fs ms) :
  Calls Try.prog 72 #[v, .int .i64 n] w fun e w' => AtIs fs ms n w e w' := by
 obtain ⟨ao, cap, rfl, a1, a2, a3, a4⟩ := h
 have HM := hdH (hm)
 have H4 := hdH (a4)
 clear a3 a4 hm
 have t0 := tR
 go_enter Try.func72, Try.ntmps72
 go_wp2_with (have q0 := t0; refine new_lawV _ ?_; intro w1 V1 B1 l1; have HV1 := hdH (V1); clear V1 t0)
 go_loopw [10] (fun i wr => ∃ k : Nat, k ≤ fs.length ∧ i = .int .i64 k ∧ Hid (∀ s, s < k → (gf fs s).1 ≠ n) ∧ Hid (Below w1.heap.size w1 wr)) (fun i _ => fs.length - (intOf i).toNat)
 case atStart => exact ⟨0, Nat.zero_le _, rfl, fun t ht => by omega, Below.refl _ _⟩
 case round =>
  obtain ⟨k, hk, rfl, HK, HB⟩ := hrel
  obtain ⟨wa, rfl⟩ : ∃ wx, wx = wr := ⟨_, rfl⟩
  have k0 : (0 : Int) ≤ (k : Int) := by omega
  have BW : Hid (Below w.heap.size w wa) := B1.trans (HB.out.mono (by omega))
  have HVa := hdH (HV1.out.below HB.out l1)
  have la : w.heap.size < wa.heap.size := by have := HB.out.size; omega
  by_cases hlt : k < fs.length
  ·have k1 : (k : Int) < (fs.length : Int) := by omega
   obtain ⟨b, off, rfl, hc⟩ := H4.out (by omega)
   obtain ⟨x, cr, mo, mc, hf⟩ := split_flt HM.out hlt
   have hfa : FlA w b (off + k * 3) (gf fs k) := hc k hlt
   have HG := hdH (hf)
   rw [hf] at hfa
   have HF : Hid (FlA wa b (off + k * 3) (x, cr, .slice mo (ms k).length mc)) := hfa.below BW.out hfa.lt
   have HY : Hid (Byt w (.slice mo (ms k).length mc) (ms k) ∧ (ms k).length ≤ 140737488355328) := by have := HM.out k hlt; rw [hf] at this; exact this
   clear hc hf hfa
   have t1 := tR
   by_cases e : x = n
   ·subst e
    have S : Hid (∀ w0, Below w.heap.size w w0 → Calls Try.prog 60 #[fv (x, cr, .slice mo (ms k).length mc)] w0 fun e w' => ∃ m', e = .returned (fv (x, cr, m')) ∧ Bow w0.heap.size w' m' (ms k) ∧ Below w0.heap.size w0 w') := fun w0 hb => copyOf_any (x, cr, .slice mo (ms k).length mc) (ms k) w0 (HY.out.1.below hb) HY.out.2
    go_wp2_with (first
     | (have q5 := t5; refine store_lawV _ (x, cr, .slice ao6 (ms k).length cap6) w.heap.size 0 rfl rfl HV6.out.2 rfl ?_; intro w7 E7 A7 T7 B7; have HA7 := hdH (A7); clear A7 T7 t5)
     | (have q4 := t4; go_at_call 60; refine (S.out _ BB.out).mono ?_; rintro e w6 ⟨m6, rfl, y6, B6⟩; obtain ⟨ao6, cap6, rfl⟩ := byt_form y6.1
        have Y6 := hdH (y6)
        have HV6 := hdH (HV3.out.below B6 (by omega))
        have B6' := hdH (BB.out.trans (B6.mono BB.out.size))
        clear y6 t4; have t5 : (5 : Nat) = 5 := rfl)
     | (have q4 := t3; refine load_lawS _ (by rfl) _ _ rfl (load_fault HA3.out) ?_; clear t3; have t4 : (4 : Nat) = 4 := rfl)
     | (have q2 := t2'; refine store_lawV _ (x, cr, .slice mo (ms k).length mc) wa.heap.size 0 rfl rfl HV2.out.2 rfl ?_; intro w3 E3 A3 T3 B3; have c0 := A3.1; have HA3 := hdH (A3); have BA : Below wa.heap.size wa w3 := B2.trans B3; have lb := BA.size; have HV3 := hdH (HVa.out.below BA la); have BB := bT BW BA; clear A3 T3 E3 t2'; have t3 : (3 : Nat) = 3 := rfl)
     | (have q1 := t2; refine new_lawV _ ?_; intro w2 V2 B2 l2; have HV2 := hdH (V2); clear V2 t2; have t2' : (2 : Nat) = 2 := rfl)
     | (have q0 := t1; refine load_lawS _ (by rfl) _ _ rfl (load_fault HF.out) ?_; clear t1; have t2 : (2 : Nat) = 2 := rfl))
    (try simp only [Exit.inBlock, Exit.then])
    refine bodyPost_ret (v := .tuple #[fv (x, cr, .slice ao6 (ms k).length cap6), .bool true]) (results_fltB rfl _ _ w.heap.size _ true rfl rfl HA7.out) rfl ⟨_, true, rfl, ?_, ?_, ?_⟩
    ·exact B6'.out.trans (B7.mono (Nat.le_refl _))
    ·rintro t ⟨ht1, ht2, ht3⟩
     have e : t = k := by
      rcases Nat.lt_trichotomy t k with q | q | q
      ·exact absurd ht2 (HK.out t q)
      ·exact q
      ·exact absurd (by rw [HG.out]) (ht3 k q)
     subst e
     refine ⟨rfl, rfl, by rw [HG.out], ?_⟩
     have Z := bow_cells (f' := (x, cr, .slice ao6 (ms t).length cap6)) HV6.out.1 (by intro x e; cases e) Y6.out
     rw [← E7.out] at Z
     exact Z.1
    ·intro q
     exact absurd (by rw [HG.out]) (q k hlt)
   ·have e2 : (x == n) = false := by simpa using e
    have HK2 : Hid (∀ s, s < k + 1 → (gf fs s).1 ≠ n) := fun s hs => by
     by_cases q : s < k
     ·exact HK.out s q
     ·have : s = k := by omega
      subst this; rw [HG.out]; exact e
    go_wp2_with (first
     | (have q2 := t2'; refine store_lawV _ (x, cr, .slice mo (ms k).length mc) wa.heap.size 0 rfl rfl HV2.out.2 rfl ?_; intro w3 E3 A3 T3 B3; have c0 := A3.1; have BB := hdH (HB.out.trans ((B2.trans B3).mono HB.out.size)); clear A3 T3 E3 t2')
     | (have q1 := t2; refine new_lawV _ ?_; intro w2 V2 B2 l2; have HV2 := hdH (V2); clear V2 t2; have t2' : (2 : Nat) = 2 := rfl)
     | (have q0 := t1; refine load_lawS _ (by rfl) _ _ rfl (load_fault HF.out) ?_; clear t1; have t2 : (2 : Nat) = 2 := rfl))
    go_roundw
    case rel => exact ⟨k + 1, by omega, by go_num, HK2, BB⟩
    case measure => simp [intOf]; omega
  ·have e : k = fs.length := by omega
   have HKK : Hid (∀ s, s < fs.length → (gf fs s).1 ≠ n) := by rw [← e]; exact HK
   have t1 := tR
   go_wp2_with (have q1 := t1; refine store_lawV _ f0 w.heap.size 0 rfl rfl HVa.out.2 rfl ?_; intro w3 E3 A3 T3 B3; have HA3 := hdH (A3); clear A3 T3 E3 t1)
   (try simp only [Exit.inBlock, Exit.then])
   refine bodyPost_ret (v := .tuple #[fv f0, .bool false]) (results_fltB rfl _ _ w.heap.size _ false rfl rfl HA3.out) rfl ⟨_, false, rfl, ?_, ?_, ?_⟩
   ·exact BW.out.trans B3
   ·rintro t ⟨ht1, ht2, ht3⟩
    exact absurd ht2 (HKK.out t ht1)
   ·exact fun _ => ⟨rfl, rfl⟩
theorem info_fault : (Try.prog.info? 67).map (fun i => (i.zero, i.size, i.bytes)) = some (some (fv f0), 3, 40) := by kernel_rfl
def fls (fs : List (Int × Bool × Value)) : List Value := fs.flatMap fl
theorem fls_len (fs : List (Int × Bool × Value)) : (fls fs).length = fs.length * 3 := by
 induction fs with
 | nil => rfl
 | cons f fs ih => simp only [fls, List.flatMap_cons, List.length_append] at ih ⊢; rw [ih, List.length_cons]; simp [fl]; omega
theorem fls_get (fs : List (Int × Bool × Value)) : ∀ (t i : Nat), t < fs.length → i < 3 → (fls fs)[t * 3 + i]? = (fl (gf fs t))[i]? := by
 induction fs with
 | nil => intro t i h; simp at h
 | cons f fs ih =>
  intro t i ht hi
  have hl : (fl f).length = 3 := rfl
  simp only [fls, List.flatMap_cons]
  match t, ht with
  | 0, _ => rw [List.getElem?_append_left (by omega), Nat.zero_mul, Nat.zero_add]; rfl
  | t + 1, ht =>
   rw [List.getElem?_append_right (by omega), hl, show (t + 1) * 3 + i - 3 = t * 3 + i by omega]
   have := ih t i (by simpa using ht) hi
   simpa [fls, gf] using this
theorem fls_one (fs : List (Int × Bool × Value)) (h : ∀ t, t < fs.length → (gf fs t).2.2.oneCell' = true) : ∀ u ∈ fls fs, u.oneCell' = true := by
 intro u hu
 obtain ⟨f, hf, hu⟩ := List.mem_flatMap.1 hu
 obtain ⟨t, ht, rfl⟩ := List.getElem_of_mem hf
 have := h t ht
 have e : gf fs t = fs[t] := by simp [gf, List.getD, ht]
 rw [e] at this
 simp [fl] at hu
 rcases hu with rfl | rfl | rfl
 ·rfl
 ·rfl
 ·exact this
def OwnF (B : Nat) (w : World) (v : Value) (fs : List (Int × Bool × Value)) : Prop := w.ownsRow B 67 3 v fs.length (fls fs)
theorem pushF_law {ops : Array Oper} {rest : List Oper} {o : Oper} {a : Act} {Q : Exit → Act → World → Prop} (w : World) (hg : o.guard = none) (s x : Operand) (hop : o.op = .call { callee := .builtin .append, args := #[s, x], argTypes := #[24, 24] })
  (B : Nat) (hB : B ≤ w.heap.size) (v vy : Value) (fs : List (Int × Bool × Value)) (ad : Addr) (cap : Nat) (hs : a.eval s = v) (hx : a.eval x = vy) (hown : w.ownsRow B 67 3 v 0 []) (hy : vy = .slice (some ad) fs.length cap)
  (h6 : ∀ j u, (fls fs)[j]? = some u → w.cell? (ad.add j) = some u) (h1 : ∀ u ∈ fls fs, u.oneCell' = true) (hn : fs.length ≤ 100)
  (hK : ∀ v' w', OwnF B w' v' fs → Below B w w' → wpList Try.prog ops Q rest (a.put o.dst v') w') :
  wpList Try.prog ops Q (o :: rest) a w := by
 obtain ⟨i0, hi, hz0, hz1, hz2⟩ := info_parts info_fault
 subst hy
 refine wpList_append_own _ hg s x 24 hop B 67 i0 (fv f0) 3 40 Try.underlying24 hi hz0 hz1 hz2 rfl (by decide) v 0 [] hs hown ad fs.length cap (fls fs) hx (fls_len fs) h6 h1 (by simp only [maxLen]; omega) (by omega) hB fun v' w' O1 G1 _ => ?_
 rw [List.nil_append, Nat.zero_add] at O1
 exact hK v' w' O1 ((Below.refl B w).grown G1 hB fun k hk => (World.ownsRow.lt hown k hk).1)
theorem cloneF_any (v : Value) (fs : List (Int × Bool × Value)) (w : World) (h : Fls w v fs) (ho : ∀ t, t < fs.length → (gf fs t).2.2.oneCell' = true) (hl : fs.length ≤ 100) :
  Calls Try.prog 59 #[v] w fun e w' => ∃ v', e = .returned v' ∧ OwnF w.heap.size w' v' fs ∧ Below w.heap.size w w' := by
 have H1 : Hid (∀ u ∈ fls fs, u.oneCell' = true) := fls_one fs ho
 obtain ⟨ao, cap, rfl, h1, h2, h4, h5⟩ := h
 clear ho
 cases ao with
 | none =>
  have hc := h4 rfl
  subst hc
  have e : fs = [] := List.eq_nil_of_length_eq_zero (by omega)
  subst e
  have qn : ∀ w : World, (binOp .eql 24 (.slice none 0 0) (.slice none 0 0)).run Try.prog w = .ok (.bool true) w := fun w => Lib.run_eql_slice_nil w _ _ none 0 0 0 0 Try.underlying24
  clear h1 h2 h4 h5 H1
  go_enter Try.func59, Try.ntmps59
  go_wp2
  go_ret
  exact ⟨_, rfl, ⟨rfl, Or.inl ⟨rfl, rfl⟩⟩, Below.refl _ _⟩
 | some ad =>
  have H5 : Hid (∀ j u, (fls fs)[j]? = some u → w.cell? (ad.add j) = some u) := fun j u hj => by
   have hjl : j < fs.length * 3 := by rw [← fls_len]; exact (List.getElem?_eq_some_iff.1 hj).1
   obtain ⟨b, off, e, hc⟩ := h5 (by omega)
   cases e
   have e2 : j = j / 3 * 3 + j % 3 := by omega
   rw [e2, fls_get fs (j / 3) (j % 3) (by omega) (by omega)] at hj
   have := (hc (j / 3) (by omega)).range (j % 3) u hj
   rw [Addr.add_mid, show off + j = off + j / 3 * 3 + j % 3 by omega]
   exact this
  have HO : Hid ((w.alloc (.cells #[] 67)).ownsRow w.heap.size 67 3 (.slice (some ⟨w.heap.size, 0, none⟩) 0 0) 0 []) := World.ownsRow_made w #[] 0 (Nat.le_refl _) (by simp [maxLen]) (by simp)
  have B0 : Below w.heap.size w (w.alloc (.cells #[] 67)) := (Below.refl _ _).alloc (Nat.le_refl _) _
  have H6 : Hid (∀ j u, (fls fs)[j]? = some u → (w.alloc (.cells #[] 67)).cell? (ad.add j) = some u) := fun j u hj => by
   have := H5.out j u hj
   rw [B0.cell (World.block_lt_of_cell? w _ this)]
   exact this
  have z0 := B0.size
  have qn : ∀ w : World, (binOp .eql 24 (.slice (some ad) fs.length cap) (.slice none 0 0)).run Try.prog w = .ok (.bool false) w := fun w => Lib.run_eql_slice_nil w _ _ (some ad) fs.length cap 0 0 Try.underlying24
  clear h4 h5
  go_enter Try.func59, Try.ntmps59
  go_wp2_with (refine pushF_law _ rfl (.tmp 5) (.tmp 6) rfl w.heap.size z0 _ _ fs ad cap rfl rfl HO.out rfl H6.out H1.out hl ?_; intro v1 w1 O1 b1; have HO1 := hdH (O1); have C1 : Below w.heap.size w w1 := B0.trans b1; clear O1 b1)
  go_ret
  exact ⟨_, rfl, HO1.out, C1⟩
def Cop (B : Nat) (w : World) (g n k : Nat) (fs gs : List (Int × Bool × Value)) (ms : Nat → List Int) : Prop :=
 gs.length = n ∧ (∀ t, t < n → FlA w g (t * 3) (gf gs t)) ∧ (∀ t, t < n → w.there g (t * 3) 3) ∧
  (∀ t, t < k → t < n → (gf gs t).1 = (gf fs t).1 ∧ (gf gs t).2.1 = (gf fs t).2.1 ∧ Bow B w (gf gs t).2.2 (ms t)) ∧ (∀ t, k ≤ t → t < n → gf gs t = gf fs t)
theorem there_heap {w w' : World} {b p n : Nat} (h : w.there b p n) (e : w'.heap[b]? = w.heap[b]?) : w'.there b p n := fun j hj => by
 rw [World.cell?_of_block (w := w) (w' := w') (a := ⟨b, p + j, none⟩) e, World.frozen?_of_block (w := w) (w' := w') (a := ⟨b, p + j, none⟩) e]
 exact h j hj
theorem Cop.below {B : Nat} {w w' : World} {g n k : Nat} {fs gs : List (Int × Bool × Value)} {ms : Nat → List Int} (h : Cop B w g n k fs gs ms) (hb : Below w.heap.size w w') : Cop B w' g n k fs gs ms := by
 obtain ⟨h1, h2, h3, h4, h5⟩ := h
 exact ⟨h1, fun t ht => (h2 t ht).below hb (h2 t ht).lt, fun t ht => there_heap (h3 t ht) (hb.block g (h2 t ht).lt), fun t a b => ⟨(h4 t a b).1, (h4 t a b).2.1, (h4 t a b).2.2.below hb⟩, h5⟩
theorem gf_set (gs : List (Int × Bool × Value)) (k t : Nat) (f : Int × Bool × Value) (hk : k < gs.length) : gf (gs.set k f) t = if t = k then f else gf gs t := by
 unfold gf
 rw [List.getD_eq_getElem?_getD, List.getD_eq_getElem?_getD, List.getElem?_set]
 by_cases e : k = t
 ·subst e; simp [hk]
 ·rw [if_neg e, if_neg (Ne.symm e)]
theorem Cop.step {B : Nat} {w : World} {g n k : Nat} {fs gs : List (Int × Bool × Value)} {ms : Nat → List Int} (h : Cop B w g n k fs gs ms) (hk : k < n) (hu : ∀ t, t < n → ∀ x, (gf fs t).2.2 ≠ .int .u8 x) (m : Value) (hm : Bow B w m (ms k)) :
  Cop B (w.setCells g (k * 3) (fl ((gf fs k).1, (gf fs k).2.1, m))) g n (k + 1) fs (gs.set k ((gf fs k).1, (gf fs k).2.1, m)) ms := by
 obtain ⟨h1, h2, h3, h4, h5⟩ := h
 have hs := h5 k (Nat.le_refl _) hk
 have hf := h2 k hk
 rw [hs] at hf
 have hnu := hu k hk
 refine ⟨by rw [List.length_set]; exact h1, fun t ht => ?_, fun t ht => World.there_setCells (h3 t ht) _ _ _, fun t ht htn => ?_, fun t ht htn => ?_⟩
 ·rw [gf_set gs k t _ (by omega)]
  by_cases e : t = k
  ·subst e
   rw [if_pos rfl]
   exact FlA.of (World.rangeAt_setCells_same w g (t * 3) _ (h3 t ht))
  ·rw [if_neg e]
   exact FlA.of (World.rangeAt_setCells_apart (h2 t ht).range g (k * 3) _ (by right; simp only [fl, List.length_cons, List.length_nil]; omega))
 ·rw [gf_set gs k t _ (by omega)]
  by_cases e : t = k
  ·subst e
   rw [if_pos rfl]
   exact ⟨rfl, rfl, bow_cells hf hnu hm⟩
  ·rw [if_neg e]
   have := h4 t (by omega) htn
   exact ⟨this.1, this.2.1, bow_cells hf hnu this.2.2⟩
 ·rw [gf_set gs k t _ (by omega), if_neg (by omega)]
  exact h5 t (by omega) htn
theorem own_cop {B : Nat} {w : World} {v : Value} {fs : List (Int × Bool × Value)} (h : OwnF B w v fs) (ms : Nat → List Int) : ∃ ao cap g, v = .slice ao fs.length cap ∧ fs.length ≤ cap ∧ cap ≤ 9223372036854775807 ∧ (ao = none → cap = 0) ∧ (0 < fs.length → ao = some ⟨g, 0, none⟩ ∧ B ≤ g) ∧ Cop B w g fs.length 0 fs fs ms := by
 have hx := h
 rcases h.2 with ⟨rfl, hn⟩ | ⟨g, cap, cur, rfl, hg, hh, hc, hm, hs, ht⟩
 ·refine ⟨none, 0, 0, by rw [hn], by omega, by omega, fun _ => rfl, fun hp => by omega, rfl, fun t ht => by omega, fun t ht => by omega, fun t ht => by omega, fun t _ ht => by omega⟩
 ·refine ⟨some ⟨g, 0, none⟩, cap, g, rfl, hc, by simpa [maxLen] using hm, (by intro e; cases e), fun _ => ⟨rfl, hg⟩, rfl, fun t ht => ?_, fun t ht j hj => ?_, fun t ht => by omega, fun t _ ht => rfl⟩
  ·refine FlA.of fun j u hj => ?_
   have hj3 : j < 3 := (List.getElem?_eq_some_iff.1 hj).1
   rw [hx.cellAt (t * 3 + j) (by omega), fls_get fs t j ht hj3]
   exact hj
  ·refine ⟨?_, hx.frozenAt _⟩
   rw [hx.cellAt (t * 3 + j) (by omega), fls_get fs t j ht hj]
   have : j = 0 ∨ j = 1 ∨ j = 2 := by omega
   rcases this with rfl | rfl | rfl <;> rfl
def CopyIs (B : Nat) (fs : List (Int × Bool × Value)) (ms : Nat → List Int) (v : Value) (w : World) : Prop := ∃ gs cap g ao, v = .slice ao fs.length cap ∧ fs.length ≤ cap ∧ cap ≤ 9223372036854775807 ∧ (ao = none → cap = 0) ∧ (0 < fs.length → ao = some ⟨g, 0, none⟩ ∧ B ≤ g) ∧ Cop B w g fs.length fs.length fs gs ms
theorem copy_any (v : Value) (fs : List (Int × Bool × Value)) (ms : Nat → List Int) (w : World) (h : Fls w v fs) (hm : Mks w fs ms) (hl : fs.length ≤ 100) :
  Calls Try.prog 35 #[v] w fun e w' => ∃ v', e = .returned v' ∧ CopyIs w.heap.size fs ms v' w' ∧ Below w.heap.size w w' := by
 have HM := hdH (hm)
 have HU : Hid (∀ t, t < fs.length → ∀ x, (gf fs t).2.2 ≠ .int .u8 x) := fun t ht => byt_no_u8 (hm t ht).1
 have SC : Hid (Calls Try.prog 59 #[v] w fun e w' => ∃ v', e = .returned v' ∧ OwnF w.heap.size w' v' fs ∧ Below w.heap.size w w') := cloneF_any v fs w h (fun t ht => byt_one_cell (hm t ht).1) hl
 clear h hm
 go_enter Try.func35, Try.ntmps35
 go_wp2_with (go_at_call 59; refine SC.out.mono ?_; rintro e w1 ⟨v1, rfl, y1, B1⟩; obtain ⟨ao, cap, g, rfl, a1, a2, a3, a4, a5⟩ := own_cop y1 ms; have HA : Hid ((ao = none → cap = 0) ∧ (0 < fs.length → ao = some ⟨g, 0, none⟩ ∧ w.heap.size ≤ g)) := ⟨a3, a4⟩; have HC1 := hdH (a5); have HB1 := hdH (B1); clear y1 a3 a4 a5 B1)
 go_loopw [10] (fun i wr => ∃ k : Nat, k ≤ fs.length ∧ i = .int .i64 k ∧ Hid (∃ gs, Cop w.heap.size wr g fs.length k fs gs ms) ∧ Hid (Below w.heap.size w wr)) (fun i _ => fs.length - (intOf i).toNat)
 case atStart => exact ⟨0, Nat.zero_le _, rfl, ⟨fs, HC1.out⟩, HB1⟩
 case round =>
  obtain ⟨k, hk, rfl, HC, HB⟩ := hrel
  obtain ⟨wa, rfl⟩ : ∃ wx, wx = wr := ⟨_, rfl⟩
  obtain ⟨gs, hcop⟩ := HC.out
  have HCa : Hid (Cop w.heap.size wa g fs.length k fs gs ms) := hcop
  clear HC hcop
  have k0 : (0 : Int) ≤ (k : Int) := by omega
  by_cases hlt : k < fs.length
  ·have k1 : (k : Int) < (fs.length : Int) := by omega
   obtain ⟨hao, hgB⟩ := HA.out.2 (by omega)
   have HG : Hid (w.heap.size ≤ g) := hgB
   have HAO : Hid (ao = some ⟨g, 0, none⟩) := hao
   subst hao
   obtain ⟨x, cr, mo, mc, hf⟩ := split_flt HM.out hlt
   have hfa := HCa.out.2.1 k hlt
   rw [HCa.out.2.2.2.2 k (Nat.le_refl _) hlt, hf] at hfa
   have HF : Hid (FlA wa g (k * 3) (x, cr, .slice mo (ms k).length mc)) := hfa
   have lg : g < wa.heap.size := hfa.lt
   have HE : Hid (((gf fs k).1, (gf fs k).2.1) = (x, cr)) := by show _ = _; rw [hf]
   have HY : Hid (Byt w (.slice mo (ms k).length mc) (ms k) ∧ (ms k).length ≤ 140737488355328) := by have := HM.out k hlt; rw [hf] at this; exact this
   have S : Hid (∀ w0, Below w.heap.size w w0 → Calls Try.prog 60 #[fv (x, cr, .slice mo (ms k).length mc)] w0 fun e w' => ∃ m', e = .returned (fv (x, cr, m')) ∧ Bow w0.heap.size w' m' (ms k) ∧ Below w0.heap.size w0 w') := fun w0 hb => copyOf_any (x, cr, .slice mo (ms k).length mc) (ms k) w0 (HY.out.1.below hb) HY.out.2
   clear hf hfa hgB
   have t1 := tR
   go_wp2_with (first
    | (have q5 := t5; refine store_lawV _ (x, cr, .slice ao6 (ms k).length cap6) g (k * 3) rfl rfl T6.out rfl ?_; intro w7 E7 A7 T7 B7; have HE7 := hdH (E7); have HB7 := hdH (B6'.out.trans (B7.mono HG.out)); clear E7 A7 T7 B7 t5)
    | (have q4 := t4; go_at_call 60; refine (S.out _ BB.out).mono ?_; rintro e w6 ⟨m6, rfl, y6, B6⟩; obtain ⟨ao6, cap6, rfl⟩ := byt_form y6.1
       have Y6 : Hid (Bow w.heap.size w6 (.slice ao6 (ms k).length cap6) (ms k)) := y6.mono BB.out.size
       have HC6 := hdH (HC3.out.below B6)
       have T6 : Hid (w6.there g (k * 3) 3) := HC6.out.2.2.1 k hlt
       have B6' := hdH (BB.out.trans (B6.mono BB.out.size))
       clear y6 t4 B6; have t5 : (5 : Nat) = 5 := rfl)
    | (have q4 := t3; refine load_lawS _ (by rfl) _ _ rfl (load_fault HA3.out) ?_; clear t3; have t4 : (4 : Nat) = 4 := rfl)
    | (have q2 := t2'; refine store_lawV _ (x, cr, .slice mo (ms k).length mc) wa.heap.size 0 rfl rfl HV2.out.2 rfl ?_; intro w3 E3 A3 T3 B3; have HA3 := hdH (A3); have BA : Below wa.heap.size wa w3 := B2.trans B3; have HC3 := hdH (HCa.out.below BA); have BB := bT HB BA; clear A3 T3 E3 BA B2 B3 t2'; have t3 : (3 : Nat) = 3 := rfl)
    | (have q1 := t2; refine new_lawV _ ?_; intro w2 V2 B2 l2; have HV2 := hdH (V2); clear V2 t2; have t2' : (2 : Nat) = 2 := rfl)
    | (have q0 := t1; refine load_lawS _ (by rfl) _ _ rfl (load_fault HF.out) ?_; clear t1; have t2 : (2 : Nat) = 2 := rfl))
   have HC7 : Hid (∃ gs, Cop w.heap.size w7 g fs.length (k + 1) fs gs ms) := by
    have st := HC6.out.step hlt HU.out (.slice ao6 (ms k).length cap6) Y6.out
    have e1 : (gf fs k).1 = x := congrArg Prod.fst HE.out
    have e2 : (gf fs k).2.1 = cr := congrArg Prod.snd HE.out
    rw [e1, e2, ← HE7.out] at st
    exact ⟨_, st⟩
   go_roundw
   case rel => exact ⟨k + 1, by omega, by go_num, HC7, HB7⟩
   case measure => simp [intOf]; omega
  ·have e : k = fs.length := by omega
   have HR : Hid (CopyIs w.heap.size fs ms (.slice ao fs.length cap) wa) := ⟨gs, cap, g, ao, rfl, a1, a2, HA.out.1, HA.out.2, by have := HCa.out; rw [e] at this; exact this⟩
   go_wp2
   go_ret
   exact ⟨_, rfl, HR.out, HB.out⟩
end Go.Proofs.Ytikcohjhhoiakaa.fa
namespace Go.Proofs.Ytikcohjhhoiakaa.na
open Go.RowKit Go.Proofs.Ytikcohjhhoiakaa.fa
set_option maxRecDepth 20000
def hid (M : Nat → Bool) (w : World) : World := { w with heap := w.heap.mapIdx fun b o => if M b then Obj.cells #[] 0 else o }
theorem hid_size (M : Nat → Bool) (w : World) : (hid M w).heap.size = w.heap.size := by simp [hid]
theorem hid_heap (M : Nat → Bool) (w : World) (b : Nat) : (hid M w).heap[b]? = (w.heap[b]?).map fun o => if M b then Obj.cells #[] 0 else o := by simp [hid]
theorem hid_at {M : Nat → Bool} {w : World} {b : Nat} (h : M b = false) : (hid M w).heap[b]? = w.heap[b]? := by
 rw [hid_heap]
 simp [h]
theorem hid_cell {M : Nat → Bool} {w : World} {a : Addr} {v : Value} (h : (hid M w).cell? a = some v) : w.cell? a = some v ∧ M a.block = false := by
 cases hM : M a.block with
 | false => exact ⟨by rw [← World.cell?_of_block (w := w) (w' := hid M w) (a := a) (hid_at hM)]; exact h, rfl⟩
 | true =>
  exfalso
  unfold World.cell? at h
  rw [hid_heap] at h
  cases hb : w.heap[a.block]? with
  | none => simp [hb] at h
  | some o => simp [hb, hM] at h
theorem cell_hid {M : Nat → Bool} {w : World} {a : Addr} {v : Value} (h : w.cell? a = some v) (hM : M a.block = false) : (hid M w).cell? a = some v := by
 rw [World.cell?_of_block (w := w) (w' := hid M w) (a := a) (hid_at hM)]; exact h
theorem hid_range {M : Nat → Bool} {w : World} {b p : Nat} {cs : List Value} (h : (hid M w).rangeAt b p cs) : w.rangeAt b p cs := fun j v hv => (hid_cell (h j v hv)).1
theorem range_hid {M : Nat → Bool} {w : World} {b p : Nat} {cs : List Value} (h : w.rangeAt b p cs) (hM : M b = false) : (hid M w).rangeAt b p cs := fun j v hv => cell_hid (h j v hv) hM
theorem hid_byt {M : Nat → Bool} {w : World} {v : Value} {xs : List Int} (h : Byt (hid M w) v xs) : Byt w v xs := by
 obtain ⟨ao, cap, rfl, h1, h2, h3, h4, h5⟩ := h
 refine ⟨ao, cap, rfl, h1, h2, h3, h4, fun hp => ?_⟩
 obtain ⟨b, off, rfl, hc⟩ := h5 hp
 exact ⟨b, off, rfl, fun t ht => (hid_cell (hc t ht)).1⟩
theorem hid_rws {M : Nat → Bool} {w : World} {v : Value} {k : Nat} {ess : List (List Value)} (h : Rws (hid M w) v k ess) : Rws w v k ess := by
 obtain ⟨ao, cap, rfl, h1, h2, h3, h4, h5⟩ := h
 refine ⟨ao, cap, rfl, h1, h2, h3, h4, fun hp => ?_⟩
 obtain ⟨b, off, rfl, hc⟩ := h5 hp
 exact ⟨b, off, rfl, fun t ht => hid_range (hc t ht)⟩
theorem hid_fls {M : Nat → Bool} {w : World} {v : Value} {fs : List (Int × Bool × Value)} (h : Fls (hid M w) v fs) : Fls w v fs := by
 obtain ⟨ao, cap, rfl, h1, h2, h3, h5⟩ := h
 refine ⟨ao, cap, rfl, h1, h2, h3, fun hp => ?_⟩
 obtain ⟨b, off, rfl, hc⟩ := h5 hp
 exact ⟨b, off, rfl, fun t ht => FlA.of (hid_range (hc t ht).range)⟩
theorem hid_mks {M : Nat → Bool} {w : World} {fs : List (Int × Bool × Value)} {ms : Nat → List Int} (h : Mks (hid M w) fs ms) : Mks w fs ms := fun t ht => ⟨hid_byt (h t ht).1, (h t ht).2⟩
theorem bow_hid {M : Nat → Bool} {B : Nat} {w : World} {v : Value} {xs : List Int} (h : Bow B w v xs) (hM : ∀ b, M b = true → b < B) : Byt (hid M w) v xs := by
 obtain ⟨⟨ao, cap, rfl, h1, h2, h3, h4, h5⟩, ho⟩ := h
 refine ⟨ao, cap, rfl, h1, h2, h3, h4, fun hp => ?_⟩
 obtain ⟨b, off, rfl, hc⟩ := h5 hp
 obtain ⟨b', off', cap', e, hB, _⟩ := ho hp
 cases e
 refine ⟨b, off, rfl, fun t ht => cell_hid (hc t ht) ?_⟩
 cases q : M b with
 | false => rfl
 | true => have := hM b q; omega
theorem not_hid {M : Nat → Bool} {B b : Nat} (hM : ∀ b, M b = true → b < B) (h : B ≤ b) : M b = false := by
 cases q : M b with
 | false => rfl
 | true => have := hM b q; omega
theorem own_hid {M : Nat → Bool} {B : Nat} {w : World} {v : Value} {xs : List Int} (h : Own B w v xs) (ha : AllB xs) (hM : ∀ b, M b = true → b < B) : Byt (hid M w) v xs := bow_hid (bow_own h ha) hM
theorem owr_hid {M : Nat → Bool} {B : Nat} {w : World} {v : Value} {e : TypeId} {k : Nat} {ess : List (List Value)} (h : OwR B w v e k ess) (hM : ∀ b, M b = true → b < B) : Rws (hid M w) v k ess := by
 obtain ⟨ao, cap, rfl, h1, h2, h3, h4, h5⟩ := h.rws
 refine ⟨ao, cap, rfl, h1, h2, h3, h4, fun hp => ?_⟩
 obtain ⟨g, cap', e, hg, hr⟩ := h.row hp
 cases e
 exact ⟨g, 0, rfl, fun t ht => by rw [Nat.zero_add]; exact range_hid (hr t ht).1 (not_hid hM hg)⟩
def Frm (M : Nat → Bool) (w w' : World) : Prop := w'.os = w.os ∧ w'.tape = w.tape ∧ w'.output = w.output ∧ w.heap.size ≤ w'.heap.size ∧ ∀ k, k < w.heap.size → M k = false → w'.heap[k]? = w.heap[k]?
theorem Frm.refl (M : Nat → Bool) (w : World) : Frm M w w := ⟨rfl, rfl, rfl, Nat.le_refl _, fun _ _ _ => rfl⟩
theorem Frm.size {M : Nat → Bool} {w w' : World} (h : Frm M w w') : w.heap.size ≤ w'.heap.size := h.2.2.2.1
theorem Frm.of_below {M : Nat → Bool} {w w' : World} (h : Below w.heap.size w w') : Frm M w w' := ⟨h.os, h.tape, h.output, h.size, fun k hk _ => h.block k hk⟩
theorem Frm.trans {M M' : Nat → Bool} {a b c : World} (h : Frm M a b) (h' : Frm M' b c) (hM : ∀ k, k < a.heap.size → M k = false → M' k = false) : Frm M a c :=
 ⟨h'.1.trans h.1, h'.2.1.trans h.2.1, h'.2.2.1.trans h.2.2.1, Nat.le_trans h.size h'.size, fun k hk q => (h'.2.2.2.2 k (Nat.lt_of_lt_of_le hk h.size) (hM k hk q)).trans (h.2.2.2.2 k hk q)⟩
theorem Frm.tr {M : Nat → Bool} {a b c : World} (h : Frm M a b) (h' : Frm M b c) : Frm M a c := h.trans h' fun _ _ q => q
theorem Frm.cells {M : Nat → Bool} {w : World} {b : Nat} (hb : M b = true) (o : Nat) (vs : List Value) : Frm M w (w.setCells b o vs) := by
 have h := below_cells b (Nat.le_refl _) vs o (Below.refl b w)
 refine ⟨h.os, h.tape, h.output, h.size, fun k hk q => ?_⟩
 have hne : k ≠ b := by intro e; rw [e, hb] at q; cases q
 clear h hk
 induction vs generalizing o w with
 | nil => rfl
 | cons v r ih => exact (ih (w := w.setCell ⟨b, o, none⟩ v) (o + 1) ).trans (Below.heap_setCell w ⟨b, o, none⟩ v k hne)
theorem Frm.set {M : Nat → Bool} {w : World} {b : Nat} (hb : M b = true) (o : Nat) (v : Value) : Frm M w (w.setCell ⟨b, o, none⟩ v) := Frm.cells hb o [v]
theorem Frm.grown {M : Nat → Bool} {w w' : World} {row : Option Nat} (h : w.grownBy w' row) (hr : ∀ k, row = some k → M k = true) : Frm M w w' :=
 ⟨h.os, h.tape, h.output, h.size, fun k hk q => h.block k hk fun e => by rw [hr k e.symm] at q; cases q⟩
theorem Frm.drewN {M : Nat → Bool} {w w' : World} (h : Frm M w w') (n : Nat) : Frm M w (w'.drewN n) := h
theorem Frm.below {M : Nat → Bool} {w w' : World} {B : Nat} (h : Frm M w w') (hB : B ≤ w.heap.size) (hM : ∀ k, M k = true → B ≤ k) : Below B w w' :=
 ⟨h.1, h.2.1, h.2.2.1, h.size, fun k hk => h.2.2.2.2 k (by omega) (by
  cases q : M k with
  | false => rfl
  | true => have := hM k q; omega)⟩
theorem Frm.hid {M M' : Nat → Bool} {w w' : World} (h : Frm M w w') (hM : ∀ k, k < w.heap.size → M' k = M k) : Below (na.hid M w).heap.size (na.hid M w) (na.hid M' w') := by
 rw [hid_size]
 refine ⟨h.1, h.2.1, h.2.2.1, by rw [hid_size, hid_size]; exact h.size, fun k hk => ?_⟩
 have e := hM k hk
 cases q : M k with
 | false => rw [hid_at q, hid_at (e.trans q)]; exact h.2.2.2.2 k hk q
 | true =>
  have hk' := Nat.lt_of_lt_of_le hk h.size
  rw [hid_heap, hid_heap, e, q, Array.getElem?_eq_getElem hk, Array.getElem?_eq_getElem hk']
  rfl
theorem Frm.hid0 {M : Nat → Bool} {w w' : World} (h : Frm M w w') : Below (na.hid M w).heap.size (na.hid M w) (na.hid M w') := h.hid fun _ _ => rfl
theorem below_hid {M : Nat → Bool} {w w' : World} (h : Below w.heap.size w w') : Below (na.hid M w).heap.size (na.hid M w) (na.hid M w') := (Frm.of_below h).hid0
theorem Frm.block {M : Nat → Bool} {w w' : World} (h : Frm M w w') {k : Nat} (hk : k < w.heap.size) (q : M k = false) : w'.heap[k]? = w.heap[k]? := h.2.2.2.2 k hk q
section
variable {ops : Array Oper} {rest : List Oper} {a : Act} {Q : Exit → Act → World → Prop}
theorem store_law1 {d : Option Tmp} {x y : Operand} {t ty : TypeId} {pos : String} {af : Array Edge} (w : World) (b j : Nat) (v : Value) (hx : a.eval x = .pointer (some ⟨b, j, none⟩)) (hy : a.eval y = v) (hc : (w.cell? ⟨b, j, none⟩).isSome = true) (hf : w.frozen? ⟨b, j, none⟩ = false) (hi : (Try.prog.info? t).map (·.size) = some 1) (h1 : v.oneCell' = true) (hcv : v.cells = #[v])
  (hK : ∀ w', Hid (w' = w.setCell ⟨b, j, none⟩ v) → wpList Try.prog ops Q rest (a.put d undef) w') :
  wpList Try.prog ops Q (⟨d, Op.store t x y, ty, pos, af, none⟩ :: rest) a w := by
 refine wpList_plain rfl fun K hK' => ?_
 have hr : (storeVar t ⟨b, j, none⟩ v).run Try.prog w = .ok () (w.setCell ⟨b, j, none⟩ v) := by
  have e0 : ∀ i, i < [v].length → i = 0 := fun i hi => by simpa using hi
  have := run_storeCells_cells (P := Try.prog) b j [v] 0 w (fun i hi => by rw [e0 i hi]; simpa using hc) (fun i hi => by rw [e0 i hi]; simpa using hf) (fun u hu => by simp at hu; subst hu; exact h1)
  cases hq : Try.prog.info? t with
  | none => simp [hq] at hi
  | some i =>
   have hs : i.size = 1 := by simpa [hq] using hi
   simp only [Nat.add_zero] at this
   simp [storeVar, sizeOf, typeInfo, hq, hcv, hs]
   simpa [World.setCells] using this
 unfold Oper.wp execOp
 simp only [hx, hy, Instr.storeAt, Instr.sureAddr, Sem.run_bind, Sem.run_pure, Result.andThen_ok, hr]
 exact hK' _ _ (hK _ rfl)
end
theorem Vr.there1 {w : World} {c : Nat} {cs : List Value} (h : Vr w c cs) (j : Nat) (hj : j < cs.length) : (w.cell? ⟨c, j, none⟩).isSome = true := by
 rw [h.cell j _ (List.getElem?_eq_getElem hj)]; rfl
end Go.Proofs.Ytikcohjhhoiakaa.na
namespace Go.Proofs.Ytikcohjhhoiakaa.fa
open Go.RowKit
set_option maxRecDepth 20000
theorem makeFn (fn : Fn) (first cap : Array Value) (w : World) : (Instr.makeFunc fn first cap).run Try.prog w = .ok (.func fn first cap) w := rfl
theorem bitsOf_any (vm : Value) (m : List Int) (w : World) (hm : Byt w vm m) :
  Calls Try.prog 90 #[vm] w fun e w' => e = .returned (.func (.func 95) #[] #[.pointer (some ⟨w.heap.size, 0, none⟩)]) ∧ Say w' w.heap.size m ∧ Below w.heap.size w w' := by
 have HM := hdH (hm)
 obtain ⟨ao, cap, rfl, h1, h2, h3, h4, h5⟩ := hm
 clear h5 h3 h4
 have hmf := makeFn
 by_cases hl : m.length = 0
 ·have HE : Hid (ms m = [255]) := by show _ = _; unfold ms; rw [if_pos hl]
  have S := hdH (fun w0 => fill_any 255 1 w0 (by decide))
  generalize hn : m.length = n at *
  subst hl
  go_enter Try.func90, Try.ntmps90
  go_wp2_with (go_at_call 94; refine (S.out _).mono ?_; rintro e w1 ⟨v1, rfl, y1, B1⟩; obtain ⟨ao1, cap1, rfl⟩ := byt_form y1; have V1 := (Var.new w _ _).below B1 (by simp); have c1 := V1.1; have f1 := V1.2)
  go_ret
  refine ⟨rfl, ⟨_, (V1.set _).1, ?_⟩, ?_⟩
  ·rw [HE.out]
   exact byt_other y1 V1.1 (by simp)
  ·exact (((Below.refl _ _).alloc (Nat.le_refl _) _).trans (B1.mono (by simp))).setCell (Nat.le_refl _) _
 ·have HE : Hid (ms m = m) := by show _ = _; unfold ms; rw [if_neg hl]
  have l0 : (m.length : Int) ≠ 0 := by omega
  go_enter Try.func90, Try.ntmps90
  go_wp2
  go_ret
  refine ⟨rfl, ⟨_, (Var.new w _ _).1, ?_⟩, (Below.refl _ _).alloc (Nat.le_refl _) _⟩
  rw [HE.out]
  exact HM.out.below ((Below.refl _ _).alloc (Nat.le_refl _) _)
end Go.Proofs.Ytikcohjhhoiakaa.fa
