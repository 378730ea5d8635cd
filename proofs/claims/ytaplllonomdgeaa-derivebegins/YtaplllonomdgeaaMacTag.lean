/- What mac's tags answer. No claim of its own. -/
import Derived.Test.YtaplllonomdgeaaRefMac
import Derived.Test.YtaplllonomdgeaaLaw3
namespace Go.Proofs.Ytaplllonomdgeaa
open Go.RowKit

theorem Has.heap {w w' : World} {b : Nat} {xs : List Int} (h : Has w b xs) (e : w'.heap[b]? = w.heap[b]?) : Has w' b xs := by
  obtain ⟨st, tl, ⟨h1, h2, h3⟩, h⟩ := h
  exact ⟨st, tl, ⟨h1.heap e, h2.heap e, h3.heap e⟩, h⟩
theorem flat_take (ls : List (List Int)) (k : Nat) (h : k < ls.length) : (ls.take (k + 1)).flatten = (ls.take k).flatten ++ ls.getD k [] := by
  rw [List.take_succ_eq_append_getElem h, List.flatten_append]
  simp [List.getD, h]
theorem flat_le (ls : List (List Int)) (k : Nat) : (ls.take k).flatten.length ≤ ls.flatten.length := by
  have : ls.flatten = (ls.take k).flatten ++ (ls.drop k).flatten := by rw [← List.flatten_append, List.take_append_drop]
  rw [this]; simp
theorem flat_all (ls : List (List Int)) (h : ∀ r, AllB (ls.getD r [])) (k : Nat) : AllB (ls.take k).flatten := allB_mem fun x hx => by
  obtain ⟨l, hl, hxl⟩ := List.mem_flatten.1 hx
  obtain ⟨r, hr, rfl⟩ := List.getElem_of_mem (List.mem_of_mem_take hl)
  obtain ⟨j, hj, rfl⟩ := List.getElem_of_mem hxl
  have := h r j
  simpa [gb, List.getD, hr, hj] using this
theorem Bts.all {w : World} {v : Value} {ls : List (List Int)} (h : Bts w v ls) (r : Nat) : AllB (ls.getD r []) := by
  obtain ⟨ao, cap, rfl, h1, h2, h5, h6⟩ := h
  by_cases hr : r < ls.length
  · obtain ⟨b, off, -, hc⟩ := h5 (by omega)
    obtain ⟨u, -, hu⟩ := hc r hr
    exact hu.all
  · rw [List.getD_eq_getElem?_getD, List.getElem?_eq_none (by omega)]
    exact allB_mem (by simp)
theorem Bts.below {w w' : World} {v : Value} {ls : List (List Int)} (h : Bts w v ls) (hb : Below w.heap.size w w') : Bts w' v ls := by
  obtain ⟨ao, cap, rfl, h1, h2, h5, h6⟩ := h
  refine ⟨ao, cap, rfl, h1, h2, fun hp => ?_, h6⟩
  obtain ⟨b, off, rfl, hc⟩ := h5 hp
  refine ⟨b, off, rfl, fun r hr => ?_⟩
  obtain ⟨u, hu, hub⟩ := hc r hr
  exact ⟨u, (hb.cell (World.block_lt_of_cell? w _ hu)).trans hu, hub.below hb⟩
/-- a slice that a call has made lasts what is written to a hash elsewhere -/
theorem kept64 {w : World} {g b n : Nat} {xs : List Int} (h : Ar w g 0 .u8 xs) (ha : AllB xs) (hn : xs.length = n) (hp : 0 < n) (hm : n ≤ 100000) (hne : g ≠ b) : Kept b w (.slice (some ⟨g, 0, none⟩) n n) xs := by
  subst hn
  exact h.kept ha hp (by omega) hne

set_option maxHeartbeats 4000000 in
theorem ktag_own (w : World) (kv : Value) (bl : List Int) (v : Value) (ls : List (List Int)) (hk : KeyV w kv bl) (hb : Bts w v ls) (hm : ls.flatten.length ≤ 100000) :
    Calls Try.prog 23 #[kv, v] w fun e w' => ∃ g, e = .returned (.slice (some ⟨g, 0, none⟩) 32 32) ∧ w.heap.size ≤ g ∧ Ar w' g 0 .u8 (tagB bl ls.flatten) ∧ Below w.heap.size w w' := by
  have HK : Hid (KeyV w kv bl) := hk
  have HM : Hid (ls.flatten.length ≤ 100000) := hm
  have HFT : Hid (∀ k, k < ls.length → (ls.take (k + 1)).flatten = (ls.take k).flatten ++ ls.getD k []) := flat_take ls
  have HFL : Hid (∀ k, (ls.take k).flatten.length ≤ 100000) := fun k => Nat.le_trans (flat_le ls k) hm
  have HFA : Hid (∀ k, AllB (ls.take k).flatten) := flat_all ls hb.all
  have HF0 : Hid ((ls.take 0).flatten = []) := by show _ = _; simp
  have HFE : Hid ((ls.take ls.length).flatten = ls.flatten) := by show _ = _; rw [List.take_length]
  have HP1 : Hid ((pdd bl 54).length = 64 ∧ AllB (pdd bl 54)) := ⟨pdd_len bl 54 hk.len, pdd_all bl 54 hk.len hk.all (by omega)⟩
  have HP2 : Hid ((pdd bl 92).length = 64 ∧ AllB (pdd bl 92)) := ⟨pdd_len bl 92 hk.len, pdd_all bl 92 hk.len hk.all (by omega)⟩
  have HT : Hid (tagB bl ls.flatten = sumOf (pdd bl 92 ++ sumOf (pdd bl 54 ++ ls.flatten))) := rfl
  have HPA1 : Hid (∀ w0, KeyV w0 kv bl → Calls Try.prog 34 #[kv, .int .u8 54] w0 fun e w' => ∃ g, e = .returned (.slice (some ⟨g, 0, none⟩) 64 64) ∧ w0.heap.size ≤ g ∧ Ar w' g 0 .u8 (pdd bl 54) ∧ Below w0.heap.size w0 w') := fun w0 h => padded_any w0 kv bl 54 h (by omega)
  have HPA2 : Hid (∀ w0, KeyV w0 kv bl → Calls Try.prog 34 #[kv, .int .u8 92] w0 fun e w' => ∃ g, e = .returned (.slice (some ⟨g, 0, none⟩) 64 64) ∧ w0.heap.size ≤ g ∧ Ar w' g 0 .u8 (pdd bl 92) ∧ Below w0.heap.size w0 w') := fun w0 h => padded_any w0 kv bl 92 h (by omega)
  generalize tagB bl ls.flatten = T at *
  generalize pdd bl 54 = p1 at *
  generalize pdd bl 92 = p2 at *
  have HHS : Hid (∀ w0 b l, Has w0 b l → AllB l → l.length ≤ 1000000 → Calls Try.prog 35 #[.pointer (some ⟨b, 0, none⟩)] w0 fun e w' => ∃ v, e = .returned v ∧ Byt w' v (sumOf l) ∧ (∃ g, v = .slice (some ⟨g, 0, none⟩) 32 32 ∧ w0.heap.size ≤ g ∧ Ar w' g 0 .u8 (sumOf l)) ∧ Below w0.heap.size w0 w') := fun w0 b l h h2 h3 => hsum_any w0 b l h h2 h3
  have HSL : Hid (∀ l, (sumOf l).length = 32 ∧ AllB (sumOf l)) := fun l => ⟨sumOf_len l, sumOf_all l⟩
  generalize sumOf = SM at *
  have HEA : Hid (AllB []) := allB_mem (by simp)
  obtain ⟨ao, ca, rfl, ha1, ha2, ha5, -⟩ := hb
  obtain ⟨n, hn⟩ : ∃ n, n = ls.length := ⟨_, rfl⟩
  rw [← hn] at ha1 ha5 HFT HFE ⊢
  have HA5 : Hid (0 < n → ∃ b off, ao = some ⟨b, off, none⟩ ∧ ∀ r, r < n → ∃ u, w.cell? ⟨b, off + r, none⟩ = some u ∧ Byt w u (ls.getD r [])) := ha5
  have n2 : (n : Int) ≤ 9223372036854775807 := by omega
  clear hn ha5 hk hm
  obtain ⟨FT, hFT⟩ : ∃ FT : Nat → List Int, FT = fun k => (ls.take k).flatten := ⟨_, rfl⟩
  have HFT' : Hid (∀ k, k < n → FT (k + 1) = FT k ++ ls.getD k []) := by rw [hFT]; exact HFT.out
  have HFL' : Hid (∀ k, (FT k).length ≤ 100000) := by rw [hFT]; exact HFL.out
  have HFA' : Hid (∀ k, AllB (FT k)) := by rw [hFT]; exact HFA.out
  have HF0' : Hid (FT 0 = []) := by rw [hFT]; exact HF0.out
  have HFE' : Hid (FT n = ls.flatten) := by rw [hFT]; exact HFE.out
  clear hFT HFT HFL HFA HF0 HFE
  go_enter Try.func23, Try.ntmps23
  go_wp2_with (first
    | (go_at_call 32; refine (new_any _).mono ?_; rintro e w1 ⟨b, rfl, hb0, hH1, B1⟩; have HH1 : Hid (Has w1 b []) := hH1; have hb1 : b < w1.heap.size := hH1.lt; clear hH1; have s1 := B1.size; have HK1 : Hid (KeyV w1 kv bl) := HK.out.below B1)
    | (go_at_call 34; refine (HPA1.out _ HK1.out).mono ?_; rintro e w2 ⟨g2, rfl, hg2, hA2, B2⟩; have HK2 : Hid (Kept b w2 (.slice (some ⟨g2, 0, none⟩) 64 64) p1) := kept64 hA2 HP1.out.2 HP1.out.1 (by omega) (by omega) (by omega); have HH2 : Hid (Has w2 b []) := HH1.out.below B2 hb1; have C2 : Below w.heap.size w w2 := B1.trans (B2.mono s1); have s2 := C2.size; clear hA2)
    | (go_at_call 33; refine (write_any _ b [] p1 _ HH2.out HEA.out HK2.out (by have := HP1.out.1; simp; omega)).mono ?_; rintro e w3 ⟨rfl, hH3, hB3⟩; rw [List.nil_append] at hH3; have HH3 : Hid (Has w3 b p1) := hH3; have C3 : Below w.heap.size w w3 := C2.trans (hB3.below hb0 s2); clear hH3 hB3))
  go_loopw [16] (fun i wr => ∃ k : Nat, k ≤ n ∧ i = .int .i64 k ∧ Has wr b (p1 ++ FT k) ∧ Below w.heap.size w wr) (fun i _ => n - (intOf i).toNat)
  case atStart => exact ⟨0, Nat.zero_le _, rfl, by rw [HF0'.out, List.append_nil]; exact HH3.out, C3⟩
  case round =>
    obtain ⟨k, hk, rfl, hH, hbel⟩ := hrel
    have k0 : (0 : Int) ≤ (k : Int) := by omega
    have q1 : IntKind.i64.wrap (k : Int) = k := by rw [IntKind.wrap_i64]; omega
    have HH : Hid (Has wr b (p1 ++ FT k)) := hH
    have hbl := hH.lt
    have hsz := hbel.size
    have HPF : Hid (AllB (p1 ++ FT k) ∧ (p1 ++ FT k).length ≤ 100064) := ⟨allB_append HP1.out.2 (HFA'.out k), by have := HP1.out.1; have := HFL'.out k; simp; omega⟩
    clear hH
    by_cases hlt : k < n
    · have k1 : (k : Int) < (n : Int) := by omega
      have k2 : (k : Int) + 1 ≤ 9223372036854775807 := by omega
      obtain ⟨bl', ol, rfl, hcl⟩ := HA5.out (by omega)
      obtain ⟨u, hu, hub⟩ := hcl k hlt
      have hul := World.block_lt_of_cell? w _ hu
      have xu : wr.cell? ⟨bl', ol + k, none⟩ = some u := (hbel.cell hul).trans hu
      have HKu : Hid (Kept b wr u (ls.getD k [])) := hub.kept hbel hb0
      have HE : Hid (p1 ++ FT k ++ ls.getD k [] = p1 ++ FT (k + 1)) := by show _ = _; rw [HFT'.out k hlt, List.append_assoc]
      have HE2 : Hid ((p1 ++ FT (k + 1)).length ≤ 100064) := by have := HP1.out.1; have := HFL'.out (k + 1); show _ ≤ _; simp; omega
      generalize ls.getD k [] = xs at *
      generalize p1 ++ FT k = acc at *
      obtain ⟨acc2, hacc2⟩ : ∃ x, x = p1 ++ FT (k + 1) := ⟨_, rfl⟩
      rw [← hacc2] at HE HE2
      have HACC : Hid (acc2 = p1 ++ FT (k + 1)) := hacc2
      clear hacc2
      clear hcl hub
      go_wp2_with (go_at_call 33; refine (write_any _ b acc xs _ HH.out HPF.out.1 HKu.out (by have h1 := HE2.out; rw [← HE.out, List.length_append] at h1; omega)).mono ?_; rintro e w4 ⟨rfl, hH4, hB4⟩; rw [HE.out] at hH4; have HH4 : Hid (Has w4 b acc2) := hH4; have C4 : Below w.heap.size w w4 := hbel.trans (hB4.below hb0 hsz); clear hH4 hB4)
      go_roundw
      case rel => exact ⟨k + 1, by omega, by go_num, by rw [← HACC.out]; exact HH4.out, C4⟩
      case measure => simp [intOf]; omega
    · have hkn : k = n := by omega
      subst hkn
      rw [HFE'.out] at HH HPF
      have HKr : Hid (KeyV wr kv bl) := HK.out.below hbel
      generalize ls.flatten = all at *
      go_wp2_with (first
        | (go_at_call 35; refine (HHS.out _ b2 _ HH9.out (allB_append HP2.out.2 (HSL.out _).2) (by have := HP2.out.1; have := (HSL.out (p1 ++ all)).1; simp; omega)).mono ?_; rintro e wa ⟨va, rfl, -, ⟨ga, rfl, hga, hAa⟩, Ba⟩; rw [← HT.out] at hAa; have HAa : Hid (Ar wa ga 0 .u8 T) := hAa; clear hAa)
        | (go_at_call 33; refine (write_any _ b2 p2 (SM (p1 ++ all)) _ HH8.out HP2.out.2 HK8.out (by have := HP2.out.1; have := (HSL.out (p1 ++ all)).1; omega)).mono ?_; rintro e w9 ⟨rfl, hH9, hB9⟩; have HH9 : Hid (Has w9 b2 (p2 ++ SM (p1 ++ all))) := hH9; have C9 : Below w.heap.size w w9 := C8.trans (hB9.below (by omega) C8.size); clear hH9 hB9)
        | (go_at_call 35; refine (HHS.out _ b _ HI7.out HPF.out.1 (by have := HPF.out.2; omega)).mono ?_; rintro e w8 ⟨v8, rfl, -, ⟨g8, rfl, hg8, hA8⟩, B8⟩; have s8 := B8.size; have HK8 : Hid (Kept b2 w8 (.slice (some ⟨g8, 0, none⟩) 32 32) (SM (p1 ++ all))) := kept64 hA8 (HSL.out _).2 (HSL.out _).1 (by omega) (by omega) (by omega); have HH8 : Hid (Has w8 b2 p2) := HH7.out.below B8 hb27; have C8 : Below w.heap.size w w8 := C7.trans (B8.mono C7.size); clear hA8)
        | (go_at_call_of 33 (Value.pointer (some ⟨b2, 0, none⟩)); refine (write_any _ b2 [] p2 _ HH6.out HEA.out HK6.out (by have := HP2.out.1; simp; omega)).mono ?_; rintro e w7 ⟨rfl, hH7, hB7⟩; rw [List.nil_append] at hH7; have HH7 : Hid (Has w7 b2 p2) := hH7; have hb27 : b2 < w7.heap.size := hH7.lt; have HI7 : Hid (Has w7 b (p1 ++ all)) := HI6.out.heap (hB7.block b hbb (by omega)); have s7 := hB7.size; have C7 : Below w.heap.size w w7 := C6.trans (hB7.below (by omega) (by omega)); clear hH7 hB7)
        | (go_at_call 34; refine (HPA2.out _ HK5.out).mono ?_; rintro e w6 ⟨g6, rfl, hg6, hA6, B6⟩; have HK6 : Hid (Kept b2 w6 (.slice (some ⟨g6, 0, none⟩) 64 64) p2) := kept64 hA6 HP2.out.2 HP2.out.1 (by omega) (by omega) (by omega); have HH6 : Hid (Has w6 b2 []) := HH5.out.below B6 hb21; have s6 := B6.size; have hbb : b < w6.heap.size := (by omega); have HI6 : Hid (Has w6 b (p1 ++ all)) := (HH.out.below B5 hbl).below B6 (by omega); have C6 : Below w.heap.size w w6 := hbel.trans ((B5.mono hsz).trans (B6.mono (by omega))); clear hA6)
        | (go_at_call 32; refine (new_any _).mono ?_; rintro e w5 ⟨b2, rfl, hb20, hH5, B5⟩; have HH5 : Hid (Has w5 b2 []) := hH5; have hb21 : b2 < w5.heap.size := hH5.lt; clear hH5; have s5 := B5.size; have HK5 : Hid (KeyV w5 kv bl) := HKr.out.below B5))
      go_ret
      exact ⟨ga, rfl, Nat.le_trans C9.size hga, HAa.out, C9.trans (Ba.mono C9.size)⟩

theorem tagB_len (bl t : List Int) : (tagB bl t).length = 32 := sumOf_len _
theorem tagB_all (bl t : List Int) : AllB (tagB bl t) := sumOf_all _
theorem ar32_byt {w : World} {g : Nat} {xs : List Int} (h : Ar w g 0 .u8 xs) (ha : AllB xs) (hl : xs.length = 32) (cap : Nat) (h1 : 32 ≤ cap) (h2 : cap ≤ 9223372036854775807) : Byt w (.slice (some ⟨g, 0, none⟩) 32 cap) xs := by
  have := h.byt ha 0 32 cap (by omega) (by omega) (by omega) h2
  rwa [List.take_of_length_le (by omega), List.drop_zero] at this
theorem ktag_any (w : World) (kv : Value) (bl : List Int) (v : Value) (ls : List (List Int)) (hk : KeyV w kv bl) (hb : Bts w v ls) (hm : ls.flatten.length ≤ 100000) :
    Calls Try.prog 23 #[kv, v] w fun e w' => ∃ v', e = .returned v' ∧ Byt w' v' (tagB bl ls.flatten) ∧ Below w.heap.size w w' :=
  (ktag_own w kv bl v ls hk hb hm).mono fun _ _ ⟨_, he, _, hA, hbl⟩ => ⟨_, he, ar32_byt hA (tagB_all _ _) (tagB_len _ _) 32 (by omega) (by omega), hbl⟩
end Go.Proofs.Ytaplllonomdgeaa
