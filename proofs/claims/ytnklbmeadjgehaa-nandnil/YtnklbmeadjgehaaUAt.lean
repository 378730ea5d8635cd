/- What the reference's Right and At, and fault's At answer. No claim of its own. -/
import Derived.Test.YtnklbmeadjgehaaUPlan
namespace Go.Proofs.Ytnklbmeadjgehaa.fa
open Go.RowKit
set_option maxRecDepth 20000

set_option maxHeartbeats 2000000 in
theorem rright_any (v : Value) (fs : List (Int × Bool × Value)) (ms : Nat → List Int) (w : World) (h : Fls w v fs) (hm : Mks w fs ms) (c : Bool) (h0 : c = true ↔ (fs.length ≤ 64 ∧ Okp fs ms fs.length)) :
    Calls Try.prog 10 #[v] w fun e w' => e = .returned (.bool c) ∧ ∃ n, w' = w.drewN n := by
  obtain ⟨ao, cap, rfl, a1, a2, a3, a4⟩ := h
  have HM : Hid (Mks w fs ms) := hm
  have H0 : Hid (c = true ↔ (fs.length ≤ 64 ∧ Okp fs ms fs.length)) := h0
  have H4 : Hid (0 < fs.length → ∃ b off, ao = some ⟨b, off, none⟩ ∧ ∀ t, t < fs.length → FlA w b (off + t * 3) (gf fs t)) := a4
  clear hm h0 a3 a4
  go_enter Try.func10, Try.ntmps10
  go_wp2
  go_loopw [3] (fun i wr => ∃ k n : Nat, k ≤ fs.length ∧ i = .int .i64 k ∧ Hid (Okp fs ms k) ∧ wr = w.drewN n) (fun i _ => fs.length - (intOf i).toNat)
  case atStart => exact ⟨0, 0, Nat.zero_le _, rfl, fun t ht => by omega, rfl⟩
  case round =>
    obtain ⟨k, n, hk, rfl, HK, rfl⟩ := hrel
    have k0 : (0 : Int) ≤ (k : Int) := by omega
    by_cases hlt : k < fs.length
    · have k1 : (k : Int) < (fs.length : Int) := by omega
      obtain ⟨b, off, rfl, hc⟩ := H4.out (by omega)
      obtain ⟨x, cr, mo, mc, hf⟩ := split_flt HM.out hlt
      have hfa : FlA w b (off + k * 3) (gf fs k) := hc k hlt
      have HX : Hid ((gf fs k).1 = x) := by show _ = _; rw [hf]
      rw [hf] at hfa
      have c0 := hfa.1
      have c2 := hfa.2.2
      have HL : Hid ((ms k).length ≤ 9223372036854775807) := (HM.out k hlt).1.len
      have LL : ((ms k).length : Int) ≤ 9223372036854775807 := by have := HL.out; omega
      have HK1 : Hid (0 ≤ x → (ms k).length ≤ 64 → Okp fs ms (k + 1)) := fun q1 q2 => okp_more HK.out (by rw [HX.out]; exact q1) q2
      have HN : Hid (¬ (0 ≤ x ∧ (ms k).length ≤ 64) → c = false) := fun q => Bool.eq_false_iff.2 fun hc => q (by have := (H0.out.1 hc).2 k hlt; rw [HX.out] at this; exact this)
      clear hc hf hfa
      generalize (ms k).length = L at *
      by_cases hx : x < 0
      · have e := HN.out (by omega)
        subst e
        go_wp2
        go_ret
        exact ⟨rfl, n, rfl⟩
      · by_cases hL : 64 < L
        · have e := HN.out (by omega)
          subst e
          have L1 : (64 : Int) < (L : Int) := by omega
          go_wp2
          go_ret
          exact ⟨rfl, n, rfl⟩
        · have HK2 : Hid (Okp fs ms (k + 1)) := HK1.out (by omega) (by omega)
          have L1 : (L : Int) ≤ 64 := by omega
          go_wp2
          go_roundw
          case rel => exact ⟨k + 1, n, by omega, by go_num, HK2, rfl⟩
          case measure => simp [intOf]; omega
    · have e : k = fs.length := by omega
      have HE : Hid (c = decide ((fs.length : Int) ≤ 64)) := by
        show _ = _
        have hk2 := HK.out
        rw [e] at hk2
        by_cases q : fs.length ≤ 64
        · rw [H0.out.2 ⟨q, hk2⟩]; exact (decide_eq_true (by omega)).symm
        · rw [Bool.eq_false_iff.2 fun hc => q (H0.out.1 hc).1]; exact (decide_eq_false (by omega)).symm
      go_wp2
      go_ret
      exact ⟨ret_bool HE.out.symm, n, rfl⟩

/-- t is the first of the number n -/
def Fst (fs : List (Int × Bool × Value)) (n : Int) (t : Nat) : Prop := t < fs.length ∧ (gf fs t).1 = n ∧ ∀ s, s < t → (gf fs s).1 ≠ n
theorem fst_or (fs : List (Int × Bool × Value)) (n : Int) : (∃ t, Fst fs n t) ∨ ∀ s, s < fs.length → (gf fs s).1 ≠ n := by
  have key : ∀ k, k ≤ fs.length → (∃ t, Fst fs n t) ∨ ∀ s, s < k → (gf fs s).1 ≠ n := fun k => by
    induction k with
    | zero => exact fun _ => Or.inr fun s hs => by omega
    | succ k ih =>
      intro hk
      rcases ih (by omega) with h | h
      · exact Or.inl h
      · by_cases e : (gf fs k).1 = n
        · exact Or.inl ⟨k, hk, e, h⟩
        · refine Or.inr fun s hs => ?_
          by_cases q : s < k
          · exact h s q
          · have : s = k := by omega
            subst this; exact e
  exact key _ (Nat.le_refl _)

set_option maxHeartbeats 2000000 in
theorem rat_any (v : Value) (fs : List (Int × Bool × Value)) (n : Int) (w : World) (h : Fls w v fs) (c : Int) (h0 : ∀ t, Fst fs n t → c = t) (h1 : (∀ s, s < fs.length → (gf fs s).1 ≠ n) → c = -1) :
    Calls Try.prog 24 #[v, .int .i64 n] w fun e w' => e = .returned (.int .i64 c) ∧ ∃ n, w' = w.drewN n := by
  obtain ⟨ao, cap, rfl, a1, a2, a3, a4⟩ := h
  have H0 : Hid (∀ t, Fst fs n t → c = t) := h0
  have H1 : Hid ((∀ s, s < fs.length → (gf fs s).1 ≠ n) → c = -1) := h1
  have H4 : Hid (0 < fs.length → ∃ b off, ao = some ⟨b, off, none⟩ ∧ ∀ t, t < fs.length → FlA w b (off + t * 3) (gf fs t)) := a4
  clear h0 h1 a3 a4
  go_enter Try.func24, Try.ntmps24
  go_wp2
  go_loopw [5] (fun i wr => ∃ k m : Nat, k ≤ fs.length ∧ i = .int .i64 k ∧ Hid (∀ s, s < k → (gf fs s).1 ≠ n) ∧ wr = w.drewN m) (fun i _ => fs.length - (intOf i).toNat)
  case atStart => exact ⟨0, 0, Nat.zero_le _, rfl, fun t ht => by omega, rfl⟩
  case round =>
    obtain ⟨k, m, hk, rfl, HK, rfl⟩ := hrel
    have k0 : (0 : Int) ≤ (k : Int) := by omega
    by_cases hlt : k < fs.length
    · have k1 : (k : Int) < (fs.length : Int) := by omega
      obtain ⟨b, off, rfl, hc⟩ := H4.out (by omega)
      obtain ⟨x, hx⟩ : ∃ x, (gf fs k).1 = x := ⟨_, rfl⟩
      have c0 := (hc k hlt).1
      rw [hx] at c0
      have HX : Hid ((gf fs k).1 = x) := hx
      clear hc hx
      by_cases e : x = n
      · subst e
        have e2 := H0.out k ⟨hlt, HX.out, HK.out⟩
        subst e2
        go_wp2
        go_ret
        exact ⟨rfl, m, rfl⟩
      · have e2 : (x == n) = false := by simpa using e
        have HK2 : Hid (∀ s, s < k + 1 → (gf fs s).1 ≠ n) := fun s hs => by
          by_cases q : s < k
          · exact HK.out s q
          · have : s = k := by omega
            subst this; rw [HX.out]; exact e
        go_wp2
        go_roundw
        case rel => exact ⟨k + 1, m, by omega, by go_num, HK2, rfl⟩
        case measure => simp [intOf]; omega
    · have e : k = fs.length := by omega
      have e2 := H1.out (by rw [← e]; exact HK.out)
      subst e2
      go_wp2
      go_ret
      exact ⟨rfl, m, rfl⟩

/-- what At answers -/
def AtIs (fs : List (Int × Bool × Value)) (ms : Nat → List Int) (n : Int) (w : World) (e : Ending) (w' : World) : Prop := ∃ f ok, e = .returned (.tuple #[fv f, .bool ok]) ∧ Below w.heap.size w w' ∧ (∀ t, Fst fs n t → ok = true ∧ f.1 = n ∧ f.2.1 = (gf fs t).2.1 ∧ Byt w' f.2.2 (ms t)) ∧ ((∀ s, s < fs.length → (gf fs s).1 ≠ n) → ok = false ∧ f = f0)

set_option maxHeartbeats 4000000 in
theorem at_any (v : Value) (fs : List (Int × Bool × Value)) (ms : Nat → List Int) (n : Int) (w : World) (h : Fls w v fs) (hm : Mks w fs ms) :
    Calls Try.prog 72 #[v, .int .i64 n] w fun e w' => AtIs fs ms n w e w' := by
  obtain ⟨ao, cap, rfl, a1, a2, a3, a4⟩ := h
  have HM : Hid (Mks w fs ms) := hm
  have H4 : Hid (0 < fs.length → ∃ b off, ao = some ⟨b, off, none⟩ ∧ ∀ t, t < fs.length → FlA w b (off + t * 3) (gf fs t)) := a4
  clear a3 a4 hm
  have t0 : (0 : Nat) = 0 := rfl
  go_enter Try.func72, Try.ntmps72
  go_wp2_with (have q0 := t0; refine new_lawV _ ?_; intro w1 V1 B1 l1; have HV1 : Hid (FlV w1 w.heap.size f0) := V1; clear V1 t0)
  go_loopw [10] (fun i wr => ∃ k : Nat, k ≤ fs.length ∧ i = .int .i64 k ∧ Hid (∀ s, s < k → (gf fs s).1 ≠ n) ∧ Hid (Below w1.heap.size w1 wr)) (fun i _ => fs.length - (intOf i).toNat)
  case atStart => exact ⟨0, Nat.zero_le _, rfl, fun t ht => by omega, Below.refl _ _⟩
  case round =>
    obtain ⟨k, hk, rfl, HK, HB⟩ := hrel
    obtain ⟨wa, rfl⟩ : ∃ wx, wx = wr := ⟨_, rfl⟩
    have k0 : (0 : Int) ≤ (k : Int) := by omega
    have BW : Hid (Below w.heap.size w wa) := B1.trans (HB.out.mono (by omega))
    have HVa : Hid (FlV wa w.heap.size f0) := HV1.out.below HB.out l1
    have la : w.heap.size < wa.heap.size := by have := HB.out.size; omega
    by_cases hlt : k < fs.length
    · have k1 : (k : Int) < (fs.length : Int) := by omega
      obtain ⟨b, off, rfl, hc⟩ := H4.out (by omega)
      obtain ⟨x, cr, mo, mc, hf⟩ := split_flt HM.out hlt
      have hfa : FlA w b (off + k * 3) (gf fs k) := hc k hlt
      have HG : Hid (gf fs k = (x, cr, .slice mo (ms k).length mc)) := hf
      rw [hf] at hfa
      have HF : Hid (FlA wa b (off + k * 3) (x, cr, .slice mo (ms k).length mc)) := hfa.below BW.out hfa.lt
      have HY : Hid (Byt w (.slice mo (ms k).length mc) (ms k) ∧ (ms k).length ≤ 140737488355328) := by have := HM.out k hlt; rw [hf] at this; exact this
      clear hc hf hfa
      have t1 : (1 : Nat) = 1 := rfl
      by_cases e : x = n
      · subst e
        have S : Hid (∀ w0, Below w.heap.size w w0 → Calls Try.prog 60 #[fv (x, cr, .slice mo (ms k).length mc)] w0 fun e w' => ∃ m', e = .returned (fv (x, cr, m')) ∧ Bow w0.heap.size w' m' (ms k) ∧ Below w0.heap.size w0 w') := fun w0 hb => copyOf_any (x, cr, .slice mo (ms k).length mc) (ms k) w0 (HY.out.1.below hb) HY.out.2
        go_wp2_with (first
          | (have q5 := t5; refine store_lawV _ (x, cr, .slice ao6 (ms k).length cap6) w.heap.size 0 rfl rfl HV6.out.2 rfl ?_; intro w7 E7 A7 T7 B7; have HA7 : Hid (FlA w7 w.heap.size 0 (x, cr, .slice ao6 (ms k).length cap6)) := A7; clear A7 T7 t5)
          | (have q4 := t4; go_at_call 60; refine (S.out _ BB.out).mono ?_; rintro e w6 ⟨m6, rfl, y6, B6⟩; obtain ⟨ao6, cap6, rfl⟩ := byt_form y6.1
             have Y6 : Hid (Bow w3.heap.size w6 (.slice ao6 (ms k).length cap6) (ms k)) := y6
             have HV6 : Hid (FlV w6 w.heap.size f0) := HV3.out.below B6 (by omega)
             have B6' : Hid (Below w.heap.size w w6) := BB.out.trans (B6.mono BB.out.size)
             clear y6 t4; have t5 : (5 : Nat) = 5 := rfl)
          | (have q4 := t3; refine load_lawS _ (by rfl) _ _ rfl (load_fault HA3.out) ?_; clear t3; have t4 : (4 : Nat) = 4 := rfl)
          | (have q2 := t2'; refine store_lawV _ (x, cr, .slice mo (ms k).length mc) wa.heap.size 0 rfl rfl HV2.out.2 rfl ?_; intro w3 E3 A3 T3 B3; have c0 := A3.1; have HA3 : Hid (FlA w3 wa.heap.size 0 (x, cr, .slice mo (ms k).length mc)) := A3; have BA : Below wa.heap.size wa w3 := B2.trans B3; have lb := BA.size; have HV3 : Hid (FlV w3 w.heap.size f0) := HVa.out.below BA la; have BB : Hid (Below w.heap.size w w3) := BW.out.trans (BA.mono BW.out.size); clear A3 T3 E3 t2'; have t3 : (3 : Nat) = 3 := rfl)
          | (have q1 := t2; refine new_lawV _ ?_; intro w2 V2 B2 l2; have HV2 : Hid (FlV w2 wa.heap.size f0) := V2; clear V2 t2; have t2' : (2 : Nat) = 2 := rfl)
          | (have q0 := t1; refine load_lawS _ (by rfl) _ _ rfl (load_fault HF.out) ?_; clear t1; have t2 : (2 : Nat) = 2 := rfl))
        (try simp only [Exit.inBlock, Exit.then])
        refine bodyPost_ret (v := .tuple #[fv (x, cr, .slice ao6 (ms k).length cap6), .bool true]) (results_fltB rfl _ _ w.heap.size _ true rfl rfl HA7.out) rfl ⟨_, true, rfl, ?_, ?_, ?_⟩
        · exact B6'.out.trans (B7.mono (Nat.le_refl _))
        · rintro t ⟨ht1, ht2, ht3⟩
          have e : t = k := by
            rcases Nat.lt_trichotomy t k with q | q | q
            · exact absurd ht2 (HK.out t q)
            · exact q
            · exact absurd (by rw [HG.out]) (ht3 k q)
          subst e
          refine ⟨rfl, rfl, by rw [HG.out], ?_⟩
          have Z := bow_cells (f' := (x, cr, .slice ao6 (ms t).length cap6)) HV6.out.1 (by intro x e; cases e) Y6.out
          rw [← E7.out] at Z
          exact Z.1
        · intro q
          exact absurd (by rw [HG.out]) (q k hlt)
      · have e2 : (x == n) = false := by simpa using e
        have HK2 : Hid (∀ s, s < k + 1 → (gf fs s).1 ≠ n) := fun s hs => by
          by_cases q : s < k
          · exact HK.out s q
          · have : s = k := by omega
            subst this; rw [HG.out]; exact e
        go_wp2_with (first
          | (have q2 := t2'; refine store_lawV _ (x, cr, .slice mo (ms k).length mc) wa.heap.size 0 rfl rfl HV2.out.2 rfl ?_; intro w3 E3 A3 T3 B3; have c0 := A3.1; have BB : Hid (Below w1.heap.size w1 w3) := HB.out.trans ((B2.trans B3).mono HB.out.size); clear A3 T3 E3 t2')
          | (have q1 := t2; refine new_lawV _ ?_; intro w2 V2 B2 l2; have HV2 : Hid (FlV w2 wa.heap.size f0) := V2; clear V2 t2; have t2' : (2 : Nat) = 2 := rfl)
          | (have q0 := t1; refine load_lawS _ (by rfl) _ _ rfl (load_fault HF.out) ?_; clear t1; have t2 : (2 : Nat) = 2 := rfl))
        go_roundw
        case rel => exact ⟨k + 1, by omega, by go_num, HK2, BB⟩
        case measure => simp [intOf]; omega
    · have e : k = fs.length := by omega
      have HKK : Hid (∀ s, s < fs.length → (gf fs s).1 ≠ n) := by rw [← e]; exact HK
      have t1 : (1 : Nat) = 1 := rfl
      go_wp2_with (have q1 := t1; refine store_lawV _ f0 w.heap.size 0 rfl rfl HVa.out.2 rfl ?_; intro w3 E3 A3 T3 B3; have HA3 : Hid (FlA w3 w.heap.size 0 f0) := A3; clear A3 T3 E3 t1)
      (try simp only [Exit.inBlock, Exit.then])
      refine bodyPost_ret (v := .tuple #[fv f0, .bool false]) (results_fltB rfl _ _ w.heap.size _ false rfl rfl HA3.out) rfl ⟨_, false, rfl, ?_, ?_, ?_⟩
      · exact BW.out.trans B3
      · rintro t ⟨ht1, ht2, ht3⟩
        exact absurd ht2 (HKK.out t ht1)
      · exact fun _ => ⟨rfl, rfl⟩
end Go.Proofs.Ytnklbmeadjgehaa.fa
