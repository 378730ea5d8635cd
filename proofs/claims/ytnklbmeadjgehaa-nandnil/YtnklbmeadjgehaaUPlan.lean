/- Lists of faults: whether they are a plan. No claim of its own. -/
import Derived.Test.YtnklbmeadjgehaaUCpy
namespace Go.Proofs.Ytnklbmeadjgehaa.fa
open Go.RowKit
set_option maxRecDepth 20000

/-- the fault at place k -/
def gf (fs : List (Int × Bool × Value)) (k : Nat) : Int × Bool × Value := fs.getD k f0
/-- the slice value v holds the faults fs -/
def Fls (w : World) (v : Value) (fs : List (Int × Bool × Value)) : Prop := ∃ ao cap, v = .slice ao fs.length cap ∧ fs.length ≤ cap ∧ cap ≤ 9223372036854775807 ∧ (ao = none → cap = 0) ∧ (0 < fs.length → ∃ b off, ao = some ⟨b, off, none⟩ ∧ ∀ t, t < fs.length → FlA w b (off + t * 3) (gf fs t))
theorem Fls.below {w w' : World} {v : Value} {fs : List (Int × Bool × Value)} (h : Fls w v fs) (hb : Below w.heap.size w w') : Fls w' v fs := by
  obtain ⟨ao, cap, rfl, h1, h2, h3, h4⟩ := h
  refine ⟨ao, cap, rfl, h1, h2, h3, fun hp => ?_⟩
  obtain ⟨b, off, rfl, hc⟩ := h4 hp
  exact ⟨b, off, rfl, fun t ht => (hc t ht).below hb (hc t ht).lt⟩
/-- the masks of the faults fs hold the bytes ms -/
def Mks (w : World) (fs : List (Int × Bool × Value)) (ms : Nat → List Int) : Prop := ∀ t, t < fs.length → Byt w (gf fs t).2.2 (ms t) ∧ (ms t).length ≤ 140737488355328
theorem Mks.below {w w' : World} {fs : List (Int × Bool × Value)} {ms : Nat → List Int} (h : Mks w fs ms) (hb : Below w.heap.size w w') : Mks w' fs ms := fun t ht => ⟨(h t ht).1.below hb, (h t ht).2⟩
/-- the first n of them may be in a plan -/
def Okp (fs : List (Int × Bool × Value)) (ms : Nat → List Int) (n : Nat) : Prop := ∀ t, t < n → 0 ≤ (gf fs t).1 ∧ (ms t).length ≤ 64
theorem okp_more {fs : List (Int × Bool × Value)} {ms : Nat → List Int} {k : Nat} (h : Okp fs ms k) (h0 : 0 ≤ (gf fs k).1) (h1 : (ms k).length ≤ 64) : Okp fs ms (k + 1) := fun t ht => by
  by_cases e : t < k
  · exact h t e
  · have : t = k := by omega
    subst this; exact ⟨h0, h1⟩
theorem split_flt {w : World} {fs : List (Int × Bool × Value)} {ms : Nat → List Int} (h : Mks w fs ms) {k : Nat} (hk : k < fs.length) : ∃ x cr mo mc, gf fs k = (x, cr, .slice mo (ms k).length mc) := by
  obtain ⟨mo, mc, e⟩ := byt_form (h k hk).1
  exact ⟨(gf fs k).1, (gf fs k).2.1, mo, mc, by rw [← e]⟩

set_option maxHeartbeats 2000000 in
theorem check_any (v : Value) (fs : List (Int × Bool × Value)) (ms : Nat → List Int) (w : World) (h : Fls w v fs) (hm : Mks w fs ms) (c : Int) (h0 : fs.length ≤ 64 → Okp fs ms fs.length → c = 0) (h2 : ¬ (fs.length ≤ 64 ∧ Okp fs ms fs.length) → c = 2) :
    Calls Try.prog 34 #[v] w fun e w' => e = .returned (.int .i64 c) ∧ Below w.heap.size w w' := by
  obtain ⟨ao, cap, rfl, a1, a2, a3, a4⟩ := h
  have HM : Hid (Mks w fs ms) := hm
  have H0 : Hid (fs.length ≤ 64 → Okp fs ms fs.length → c = 0) := h0
  have H2 : Hid (¬ (fs.length ≤ 64 ∧ Okp fs ms fs.length) → c = 2) := h2
  have H4 : Hid (0 < fs.length → ∃ b off, ao = some ⟨b, off, none⟩ ∧ ∀ t, t < fs.length → FlA w b (off + t * 3) (gf fs t)) := a4
  clear hm h0 h2 a3 a4
  by_cases hl : fs.length ≤ 64
  · have l1 : (fs.length : Int) ≤ 64 := by omega
    go_enter Try.func34, Try.ntmps34
    go_wp2
    go_loopw [10] (fun i wr => ∃ k : Nat, k ≤ fs.length ∧ i = .int .i64 k ∧ Hid (Okp fs ms k) ∧ Hid (Below w.heap.size w wr)) (fun i _ => fs.length - (intOf i).toNat)
    case atStart => exact ⟨0, Nat.zero_le _, rfl, fun t ht => by omega, Below.refl _ _⟩
    case round =>
      obtain ⟨k, hk, rfl, HK, HB⟩ := hrel
      obtain ⟨wa, rfl⟩ : ∃ wx, wx = wr := ⟨_, rfl⟩
      have k0 : (0 : Int) ≤ (k : Int) := by omega
      by_cases hlt : k < fs.length
      · have k1 : (k : Int) < (fs.length : Int) := by omega
        obtain ⟨b, off, rfl, hc⟩ := H4.out (by omega)
        obtain ⟨x, cr, mo, mc, hf⟩ := split_flt HM.out hlt
        have hfa : FlA w b (off + k * 3) (gf fs k) := hc k hlt
        have HX : Hid ((gf fs k).1 = x) := by show _ = _; rw [hf]
        rw [hf] at hfa
        have HF : Hid (FlA wa b (off + k * 3) (x, cr, .slice mo (ms k).length mc)) := hfa.below HB.out hfa.lt
        have HL : Hid ((ms k).length ≤ 9223372036854775807) := (HM.out k hlt).1.len
        have LL : ((ms k).length : Int) ≤ 9223372036854775807 := by have := HL.out; omega
        have HK1 : Hid (0 ≤ x → (ms k).length ≤ 64 → Okp fs ms (k + 1)) := fun q1 q2 => okp_more HK.out (by rw [HX.out]; exact q1) q2
        have HN : Hid (¬ (0 ≤ x ∧ (ms k).length ≤ 64) → c = 2) := fun q => H2.out fun ⟨_, q2⟩ => q (by have := q2 k hlt; rw [HX.out] at this; exact this)
        clear hc hf hfa
        generalize (ms k).length = L at *
        have t0 : (0 : Nat) = 0 := rfl
        by_cases hx : x < 0
        · have e := HN.out (by omega)
          subst e
          go_wp2_with (first
            | (have q2 := t2; refine store_lawV _ (x, cr, .slice mo L mc) wa.heap.size 0 rfl rfl HV2.out.2 rfl ?_; intro w3 E3 A3 T3 B3; have c0 := A3.1; have c2 := A3.2.2; have BB : Hid (Below w.heap.size w w3) := HB.out.trans ((B2.trans B3).mono HB.out.size); clear A3 T3 E3 t2)
            | (have q1 := t1; refine new_lawV _ ?_; intro w2 V2 B2 l2; have HV2 : Hid (FlV w2 wa.heap.size f0) := V2; clear V2 t1; have t2 : (2 : Nat) = 2 := rfl)
            | (have q0 := t0; refine load_lawS _ (by rfl) _ _ rfl (load_fault HF.out) ?_; clear t0; have t1 : (1 : Nat) = 1 := rfl))
          go_ret
          exact ⟨rfl, BB.out⟩
        · by_cases hL : 64 < L
          · have e := HN.out (by omega)
            subst e
            have L1 : (64 : Int) < (L : Int) := by omega
            go_wp2_with (first
              | (have q2 := t2; refine store_lawV _ (x, cr, .slice mo L mc) wa.heap.size 0 rfl rfl HV2.out.2 rfl ?_; intro w3 E3 A3 T3 B3; have c0 := A3.1; have c2 := A3.2.2; have BB : Hid (Below w.heap.size w w3) := HB.out.trans ((B2.trans B3).mono HB.out.size); clear A3 T3 E3 t2)
              | (have q1 := t1; refine new_lawV _ ?_; intro w2 V2 B2 l2; have HV2 : Hid (FlV w2 wa.heap.size f0) := V2; clear V2 t1; have t2 : (2 : Nat) = 2 := rfl)
              | (have q0 := t0; refine load_lawS _ (by rfl) _ _ rfl (load_fault HF.out) ?_; clear t0; have t1 : (1 : Nat) = 1 := rfl))
            go_ret
            exact ⟨rfl, BB.out⟩
          · have HK2 : Hid (Okp fs ms (k + 1)) := HK1.out (by omega) (by omega)
            have L1 : (L : Int) ≤ 64 := by omega
            go_wp2_with (first
              | (have q2 := t2; refine store_lawV _ (x, cr, .slice mo L mc) wa.heap.size 0 rfl rfl HV2.out.2 rfl ?_; intro w3 E3 A3 T3 B3; have c0 := A3.1; have c2 := A3.2.2; have BB : Hid (Below w.heap.size w w3) := HB.out.trans ((B2.trans B3).mono HB.out.size); clear A3 T3 E3 t2)
              | (have q1 := t1; refine new_lawV _ ?_; intro w2 V2 B2 l2; have HV2 : Hid (FlV w2 wa.heap.size f0) := V2; clear V2 t1; have t2 : (2 : Nat) = 2 := rfl)
              | (have q0 := t0; refine load_lawS _ (by rfl) _ _ rfl (load_fault HF.out) ?_; clear t0; have t1 : (1 : Nat) = 1 := rfl))
            go_roundw
            case rel => exact ⟨k + 1, by omega, by go_num, HK2, BB⟩
            case measure => simp [intOf]; omega
      · have e : k = fs.length := by omega
        have e2 := H0.out hl (by rw [← e]; exact HK.out)
        subst e2
        go_wp2
        go_ret
        exact ⟨rfl, HB.out⟩
  · have e := H2.out (fun q => hl q.1)
    subst e
    have l1 : (64 : Int) < (fs.length : Int) := by omega
    go_enter Try.func34, Try.ntmps34
    go_wp2
    go_ret
    exact ⟨rfl, Below.refl _ _⟩
end Go.Proofs.Ytnklbmeadjgehaa.fa
