/- P2.2, P2.3: for every list of lists of bytes l: behind each of the first 20 pieces that are written to a hash, as long as they hold no more than 1500 bytes together, the hash's Sum is that of all bytes so far, as the reference has it, twice alike, and its Len is how many they are; what becomes of a sum that was told changes nothing. -/
import Derived.Test.YtigakkmoigfboaaLaw2
import Derived.Test.YtigakkmoigfboaaRefSum
namespace Go.Proofs.Ytigakkmoigfboaa.shaWrites
open Go.ChangeShapes Go.WideShapes Go.ChangeAt Go.RowKit

theorem own_but {B b : Nat} {w w' : World} {v : Value} {xs : List Int} (h : Own B w v xs) (hb : But b w w') (hB : b < B) : Own B w' v xs :=
  World.ownsRow.kept (row := some b) h ⟨hb.os, hb.tape, hb.output, hb.size, fun j hj hne => hb.block j hj (by intro e; exact hne (by rw [e]))⟩ (by
    cases hv : v.ownBlock with
    | none => exact Or.inl rfl
    | some k =>
      right
      have := (World.ownsRow.lt h k hv).1
      intro e; injection e with e; omega)

set_option maxHeartbeats 4000000 in
theorem walk (va : Value) (ls : List (List Int)) (w : World) (ha : Bts w va ls) :
    Calls Try.prog 5 #[va] w fun e w' => e = .returned (.bool true) ∧ Below w.heap.size w w' := by
  obtain ⟨ao, ca, rfl, ha1, ha2, ha5, ha6⟩ := ha
  have HA6 : Hid (∀ r, (ls.getD r []).length ≤ 140737488351232) := ha6
  clear ha6
  obtain ⟨n, hn⟩ : ∃ n, n = ls.length := ⟨_, rfl⟩
  rw [← hn] at ha1 ha5 ⊢
  have HA5 : Hid (0 < n → ∃ b off, ao = some ⟨b, off, none⟩ ∧ ∀ r, r < n → ∃ u, w.cell? ⟨b, off + r, none⟩ = some u ∧ Byt w u (ls.getD r [])) := ha5
  have n2 : (n : Int) ≤ 9223372036854775807 := by omega
  clear hn ha5
  go_enter Try.func5, Try.ntmps5
  go_wp2_with (go_at_call 15; refine (new_any _).mono ?_; rintro e w1 ⟨b, rfl, hb0, hH1, B1⟩; have HH1 : Hid (Has w1 b []) := hH1; have hb1 : b < w1.heap.size := hH1.lt; clear hH1; have s1 := B1.size)
  go_loopw [4, 5] (fun r i wr => ∃ (k : Nat) (acc : List Int), k ≤ n ∧ k ≤ 20 ∧ i = .int .i64 k ∧ Has wr b acc ∧ AllB acc ∧ acc.length ≤ 1500 ∧ Own w1.heap.size wr r acc ∧ w1.heap.size ≤ wr.heap.size ∧ Below w.heap.size w wr) (fun _ i _ => n - (intOf i).toNat)
  case atStart => exact ⟨0, [], Nat.zero_le _, Nat.zero_le _, rfl, HH1.out.below ((Below.refl w1.heap.size _).alloc (Nat.le_refl _) _) hb1, allB_mem (by simp), by simp, Own.empty w1 (Nat.le_refl _), by simp, B1.alloc s1 _⟩
  case round =>
    obtain ⟨k, acc, hk, hk2, rfl, hH, hac, hal, hown, hsz, hbel⟩ := hrel
    have k0 : (0 : Int) ≤ (k : Int) := by omega
    have q1 : IntKind.i64.wrap (k : Int) = k := by rw [IntKind.wrap_i64]; omega
    by_cases hlt : k < n
    · have k1 : (k : Int) < (n : Int) := by omega
      by_cases h20 : k < 20
      · have k2 : (k : Int) < 20 := by omega
        obtain ⟨bl, ol, rfl, hcl⟩ := HA5.out (by omega)
        obtain ⟨u, hu, hub⟩ := hcl k hlt
        have hul := World.block_lt_of_cell? w _ hu
        have HU : Hid (Byt w u (ls.getD k [])) := hub
        obtain ⟨xs, hxs⟩ : ∃ xs, xs = ls.getD k [] := ⟨_, rfl⟩
        have HX6 := HA6.out k
        rw [← hxs] at HU hub HX6
        have HXA : Hid (AllB xs) := hub.all
        clear hcl hxs HA5
        obtain ⟨uo, uc, rfl, hu1, hu2, -, -, -⟩ := hub
        obtain ⟨ro, rc, rfl, hr1, hr2, -, -, -⟩ := hown.byt hac
        have HL : Hid (xs.length ≤ 9223372036854775807) := HU.out.len
        obtain ⟨m, hm⟩ : ∃ m, m = xs.length := ⟨_, rfl⟩
        obtain ⟨al, hla⟩ : ∃ al, al = acc.length := ⟨_, rfl⟩
        rw [← hm] at HU hu1 hu
        rw [← hla] at hown hr1 hal ⊢
        have xu : wr.cell? ⟨bl, ol + k, none⟩ = some (.slice uo m uc) := (hbel.cell hul).trans hu
        have m1 : (m : Int) ≤ 140737488351232 := by omega
        have a1 : (al : Int) ≤ 1500 := by omega
        have HO : Hid (Own w1.heap.size wr (.slice ro al rc) acc) := hown
        have HH : Hid (Has wr b acc) := hH
        have HAC : Hid (AllB acc) := hac
        have HM : Hid (m = xs.length) := hm
        have HLA : Hid (al = acc.length) := hla
        clear hown hH hac hm hla
        have q2 : IntKind.i64.wrap ((m : Int) + (al : Int)) = (m : Int) + (al : Int) := by rw [IntKind.wrap_i64]; omega
        by_cases hbig : 1500 < m + al
        · have b2 : 1500 < (m : Int) + (al : Int) := by omega
          go_wp2_with (go_at_call 7; refine (awake_any _).mono ?_; rintro e w4 ⟨rfl, hb4⟩)
          go_ret
          exact ⟨rfl, hbel.trans (hb4.mono hbel.size)⟩
        · have b2 : ¬ 1500 < (m : Int) + (al : Int) := by omega
          have HKu : Hid (Kept b wr (.slice uo m uc) xs) := HU.out.kept hbel hb0
          have HAA : Hid (AllB (acc ++ xs)) := allB_append HAC.out HXA.out
          have HAL : Hid ((acc ++ xs).length ≤ 1500) := by have := HM.out; have := HLA.out; show _ ≤ _; simp; omega
          go_wp2_with (first
            | (go_at_call 16; refine (write_any _ b acc xs _ HH.out HAC.out HKu.out (by have := HM.out; have := HLA.out; omega)).mono ?_; rintro e w2 ⟨rfl, hH2, hB2⟩; have HH2 : Hid (Has w2 b (acc ++ xs)) := hH2; have HO2 : Hid (Own w1.heap.size w2 (.slice ro al rc) acc) := own_but HO.out hB2 hb1; have D2 : Below w.heap.size w w2 := hbel.trans (hB2.below hb0 hbel.size); have s2 : w1.heap.size ≤ w2.heap.size := Nat.le_trans hsz hB2.size; have xu2 : w2.cell? ⟨bl, ol + k, none⟩ = some (.slice uo m uc) := (D2.cell hul).trans hu; have HU2 : Hid (Byt w2 (.slice uo m uc) xs) := HU.out.below D2; clear hH2 hB2)
            | (refine pushs_law _ rfl (.tmp 35) (.tmp 39) rfl w1.heap.size s2 _ _ acc xs rfl rfl HO2.out HU2.out (by have := HLA.out; omega) (by have := HM.out; omega) ?_; intro v3 w3 O3 b3; have HO3 : Hid (Own w1.heap.size w3 v3 (acc ++ xs)) := O3; have HH3 : Hid (Has w3 b (acc ++ xs)) := HH2.out.below b3 hb1; have D3 : Below w.heap.size w w3 := D2.trans (b3.mono s1); have s3 : w1.heap.size ≤ w3.heap.size := Nat.le_trans s2 b3.size; clear O3))
          generalize acc ++ xs = aa at *
          obtain ⟨ro3, rc3, rfl, e1, e2, -, -, -⟩ := HO3.out.byt HAA.out
          have HS1 : Hid (∀ w0, Has w0 b aa → Calls Try.prog 17 #[.pointer (some ⟨b, 0, none⟩)] w0 fun e w' => ∃ v, e = .returned v ∧ Byt w' v (sumOf aa) ∧ (∃ g, v = .slice (some ⟨g, 0, none⟩) 32 32 ∧ w0.heap.size ≤ g ∧ Ar w' g 0 .u8 (sumOf aa)) ∧ Below w0.heap.size w0 w') := fun w0 h => hsum_any w0 b aa h HAA.out (by have := HAL.out; omega)
          have HRS : Hid (∀ w0, Byt w0 (.slice ro3 aa.length rc3) aa → Calls Try.prog 10 #[.slice ro3 aa.length rc3] w0 fun e w' => ∃ v, e = .returned v ∧ Byt w' v (sumOf aa) ∧ Below w0.heap.size w0 w') := fun w0 h => rsum_any w0 _ aa h (by have := HAL.out; omega)
          have HLN : Hid (∀ w0, Has w0 b aa → Calls Try.prog 18 #[.pointer (some ⟨b, 0, none⟩)] w0 fun e w' => e = .returned (.int .i64 aa.length) ∧ w' = w0) := fun w0 h => hlen_any w0 b aa h
          have HBv : Hid (Byt w3 (.slice ro3 aa.length rc3) aa) := HO3.out.byt HAA.out
          have HSS : Hid ((sumOf aa).length = 32) := catw_len _ _
          generalize sumOf aa = ss at *
          obtain ⟨L, hL⟩ : ∃ L, L = aa.length := ⟨_, rfl⟩
          rw [← hL] at HO3 HAL HRS HLN HBv e1 ⊢
          have HLL : Hid (L = aa.length) := hL
          have L1 : (L : Int) ≤ 1500 := by have := HAL.out; omega
          clear hL
          have hb3 : b < w3.heap.size := by omega
          go_wp2_with (first
            | (go_at_call 17; refine (HS1.out _ HH3.out).mono ?_; rintro e w4 ⟨v4, rfl, h4, ⟨g, rfl, hg4, hA4⟩, B4⟩; have H4 : Hid (Byt w4 (.slice (some ⟨g, 0, none⟩) 32 32) ss) := h4; have HA4 : Hid (Ar w4 g 0 .u8 ss) := hA4; have HB4 : Hid (Byt w4 (.slice ro3 L rc3) aa) := HBv.out.below B4; have hgl : g < w4.heap.size := hA4.lt (by rw [HSS.out]; omega); clear h4 hA4)
            | (go_at_call 10; refine (HRS.out _ HB4.out).mono ?_; rintro e w5 ⟨v5, rfl, h5, B5⟩; have H5 : Hid (Byt w5 v5 ss) := h5; have H45 : Hid (Byt w5 (.slice (some ⟨g, 0, none⟩) 32 32) ss) := H4.out.below B5; clear h5)
            | (go_at_call 8; refine (same_true _ _ _ _ H45.out H5.out).mono ?_; rintro e w6 ⟨rfl, B6⟩; have C6 : Below w4.heap.size w4 w6 := B5.trans (B6.mono B5.size); have E6 : Below w3.heap.size w3 w6 := B4.trans (C6.mono B4.size); have HH6 : Hid (Has w6 b aa) := HH3.out.below E6 hb3))
          go_wp2_with (first
            | (go_at_call 17; refine (HS1.out _ HH6.out).mono ?_; rintro e w7 ⟨v7, rfl, h7, -, B7⟩; have H7 : Hid (Byt w7 v7 ss) := h7; have C7 : Below w4.heap.size w4 w7 := C6.trans (B7.mono C6.size); have H47 : Hid (Byt w7 (.slice (some ⟨g, 0, none⟩) 32 32) ss) := H4.out.below C7; clear h7)
            | (go_at_call 8; refine (same_true _ _ _ _ H7.out H47.out).mono ?_; rintro e w8 ⟨rfl, B8⟩; have C8 : Below w4.heap.size w4 w8 := C7.trans (B8.mono C7.size); have E8 : Below w3.heap.size w3 w8 := B4.trans (C8.mono B4.size); have HH8 : Hid (Has w8 b aa) := HH3.out.below E8 hb3; have A8 := HA4.out.below C8 hgl; have x8 := A8.cell0 0 (by rw [HSS.out]; omega); have f8 := A8.free0 0 (by rw [HSS.out]; omega); clear A8)
            | (go_at_call 18; refine (HLN.out _ HH8.out).mono ?_; rintro e w' ⟨rfl, hw⟩; obtain rfl := hw.symm))
          go_roundw
          case rel =>
            have E9 := fun u => E8.setCell (p := ⟨g, 0, none⟩) hg4 u
            exact ⟨k + 1, aa, by omega, by omega, by go_num, HH3.out.below (E9 _) hb3, HAA.out, by have := HAL.out; have := HLL.out; omega, ownsRow_below HO3.out (E9 _), Nat.le_trans s3 (E9 _).size, D3.trans ((E9 _).mono D3.size)⟩
          case measure => simp [intOf]; omega
      · have k2 : ¬ (k : Int) < 20 := by omega
        go_wp2_with (go_at_call 7; refine (awake_any _).mono ?_; rintro e w4 ⟨rfl, hb4⟩)
        go_ret
        exact ⟨rfl, hbel.trans (hb4.mono hbel.size)⟩
    · have k1 : ¬ (k : Int) < (n : Int) := by omega
      go_wp2_with (go_at_call 7; refine (awake_any _).mono ?_; rintro e w4 ⟨rfl, hb4⟩)
      go_ret
      exact ⟨rfl, hbel.trans (hb4.mono hbel.size)⟩

theorem params : ∀ t ∈ Try.f5.params.toList, Try.prog.readableRec t = true ∧ t < Try.prog.types.size := by
  rw [Try.params5]
  intro t ht
  simp at ht
  subst ht
  exact ⟨by kernel_rfl, of_decide_eq_true (by kernel_rfl)⟩

theorem contract (H : Type) (enc : TypeId × Value → H) (W : World) (base : Nat) (args : Array Value) (ds gs : List (DataW H)) (before : List MemPlace)
    (hval : ∀ (j : Nat) t v, Try.f5.params[j]? = some t → args[j]? = some v → Value.okWide Try.prog W .any base t v)
    (hW : DataW.Whole enc Try.prog Try.f5.params.toList Rows.shaWritesSpec.vars false W args.toList ds gs before)
    (hsz : (DataW.weightsEach Try.prog (Try.f5.params.toList ++ (OpenSpec.ofChange Rows.shaWritesSpec).bare.plain.varTypes Try.prog) (ds ++ gs)).all (· ≤ reachBytes) = true) :
    Calls Try.prog 5 args W fun e W' => ∃ v, e = .returned v ∧ Rows.shaWritesSpec.post enc Try.prog Try.f5 false true false false W args v W' := by
  have hW' := hW
  obtain ⟨p, q, hA0, hV, rfl, hfz, hnd⟩ := hW
  have hA : DataW.TrodAll enc Try.prog W 0 (fun _ => true) true Try.f5.params.toList args.toList ds p := hA0
  rw [Try.params5] at hA hval
  obtain ⟨v0, d0, rfl, rfl, h0⟩ := trodAll_one hA
  obtain ⟨rfl, rfl⟩ := trodVars_none hV
  obtain ⟨xs0, b0⟩ := bts_open (hval 0 34 v0 rfl rfl) h0 (fun n hn => by have := List.all_eq_true.1 hsz n (DataW.weights_mem_each (j := 0) (t := 34) (d := d0) (by rw [Try.params5]; rfl) rfl n hn); simpa using this)
  clear hA0
  refine (walk v0 xs0 W b0).mono fun e W' ⟨he, hg⟩ => ?_
  subst he
  exact ⟨_, rfl, post_law rfl (by kernel_rfl) params rfl rfl rfl hW' hg⟩

theorem laid_met (os : Os) : laidMet Try.prog Rows.shaWritesRow.laid ((World.holding Try.prog os ⟨#[], #[], []⟩).forCall (fun _ _ => 0) ⟨#[], #[.slice none 0 0], []⟩).memory :=
  laidMet_of_run' 8 (by kernel_rfl) (by kernel_rfl)
theorem reads (os : Os) {H : Type} (enc : TypeId × Value → H) : ∃ places, DataW.whole enc Try.prog ((World.holding Try.prog os ⟨#[], #[], []⟩).forCall (fun _ _ => 0) ⟨#[], #[.slice none 0 0], []⟩).memory Try.f5.params.toList Rows.shaWritesSpec.vars false #[Value.slice none 0 0].toList 8 = some ([.nil], [], places) :=
  ⟨[], by kernel_rfl⟩

set_option maxRecDepth 100000 in
theorem lifted (os : Os) (started : os.Started) (H : Type) (enc : TypeId × Value → H) (F : Stop.Interp) :
    ReturnsInHanded {} Try.checked os 5 .any ((OpenSpec.ofChange Rows.shaWritesSpec).preRow enc Try.prog Try.f5 Rows.shaWritesRow.domain false Rows.shaWritesRow.laid) (((OpenSpec.ofChange Rows.shaWritesSpec).at F).post enc Try.prog Try.f5 false true false false) := by
  obtain ⟨places, hx⟩ := reads os enc
  refine returnsInHanded_of_row (C := Try.checked) (s := OpenSpec.ofChange Rows.shaWritesSpec) own started (by kernel_rfl) Try.func5
    (witness_row_at (enc := enc) (C := Try.checked) false (World.holding Try.prog os ⟨#[], #[], []⟩) #[.slice none 0 0] rfl (by kernel_rfl) (by kernel_rfl) (by kernel_rfl)
      (OpenSpec.preRow_of_cond 8 hx (by kernel_rfl) (fun k hk => by cases hk) (by kernel_rfl) (laid_met os))) ?_
  intro W base args ds gs before hval hW _ _ hsz _ _ _
  exact contract H enc W base args ds gs before hval hW hsz

theorem said : Rows.ShaWritesSaid :=
  OpenClaim.holds_of_cond 5 Try.f5 rfl rfl rfl rfl rfl rfl rfl ⟨rfl, rfl, rfl, rfl, rfl⟩ rfl rfl rfl rfl rfl (by kernel_rfl) Try.func5 (by kernel_rfl)
    (of_decide_eq_true (by kernel_rfl)) (by unfold Func.isWrapper; first | (rw [if_pos (by decide +kernel)]; kernel_rfl) | (rw [if_neg (by decide +kernel)]; exact ⟨rfl, rfl⟩))
    (fun os started H enc _ F => by rw [OpenClaim.pre_eq_preRow]; exact lifted os started H enc F)
end Go.Proofs.Ytigakkmoigfboaa.shaWrites

namespace Go.Proofs.Ytigakkmoigfboaa
theorem shaWrites_said : Rows.ShaWritesSaid := shaWrites.said
#print axioms shaWrites_said
end Go.Proofs.Ytigakkmoigfboaa
