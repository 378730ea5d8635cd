/- P6.1: what is put for each of any bytes, and for which each is; the program answers at all. -/
import Derived.Test.YtdchelbobmdmpaaSCall
import Derived.Test.YtdchelbobmdmpaaQReg
namespace Go.Proofs.Ytdchelbobmdmpaa.sboxLists
open Go.ChangeShapes Go.WideShapes Go.ChangeAt Go.RowKit

/-- a slice that holds n bytes -/
theorem byt_n {w : World} {v : Value} {xs : List Int} {n : Nat} (h : Byt w v xs) (hn : xs.length = n) : ∃ ao cap, v = .slice ao n cap ∧ n ≤ cap ∧ cap ≤ 9223372036854775807 ∧ (0 < n → ∃ b off, ao = some ⟨b, off, none⟩ ∧ ∀ t, t < n → w.cell? ⟨b, off + t, none⟩ = some (.int .u8 (gb xs t))) := by
  subst hn
  obtain ⟨ao, cap, rfl, h1, h2, h3, h4, h5⟩ := h
  exact ⟨ao, cap, rfl, h1, h2, h5⟩

set_option maxRecDepth 20000 in
set_option maxHeartbeats 4000000 in
theorem walk (v : Value) (xs : List Int) (w : World) (hv : Byt w v xs) :
    Calls Try.prog 4 #[v] w fun e w' => e = .returned (.bool true) ∧ Below w.heap.size w w' := by
  have HV := hv
  obtain ⟨n, hn⟩ : ∃ n, xs.length = n := ⟨_, rfl⟩
  obtain ⟨ao, cb, rfl, h1, h2, h5⟩ := byt_n hv hn
  by_cases hbig : 3000 < n
  · have hb : (3000 : Int) < (n : Int) := by omega
    clear HV hv h5
    go_enter Try.func4, Try.ntmps4
    go_wp2_with (go_at_call 9; refine (awake_any _).mono ?_; rintro e w1 ⟨rfl, B1⟩)
    go_ret
    exact ⟨rfl, B1⟩
  · have S0 : Hid (∀ w', Below w.heap.size w w' → Calls Try.prog 10 #[.slice ao n cb] w' fun e w'' => ∃ v', e = .returned v' ∧ Byt w'' v' (looked ptab xs) ∧ Below w'.heap.size w' w'') := fun w' hb => subs_any _ xs w' (HV.below hb) (by omega)
    have S9 : Hid (∀ w', Below w.heap.size w w' → Calls Try.prog 11 #[.slice ao n cb] w' fun e w'' => ∃ v', e = .returned v' ∧ Byt w'' v' (looked btab xs) ∧ Below w'.heap.size w' w'') := fun w' hb => backsl_any _ xs w' (HV.below hb) (by omega)
    have HL1 : Hid ((looked ptab xs).length = n) := by show _ = _; rw [looked_len, hn]
    have HL2 : Hid ((looked btab xs).length = n) := by show _ = _; rw [looked_len, hn]
    have HG1 : Hid (∀ k, k < n → gb (looked ptab xs) k = gb ptab (gb xs k).toNat) := fun k hk => looked_gb ptab xs k (by omega)
    have HG2 : Hid (∀ k, k < n → gb (looked btab xs) k = gb btab (gb xs k).toNat) := fun k hk => looked_gb btab xs k (by omega)
    have HA : Hid (AllB xs) := hv.all
    have H5 : Hid (0 < n → ∃ b off, ao = some ⟨b, off, none⟩ ∧ ∀ t, t < n → w.cell? ⟨b, off + t, none⟩ = some (.int .u8 (gb xs t))) := h5
    generalize looked ptab xs = ps at *
    generalize looked btab xs = bs at *
    clear HV hv h5 hn
    have hle : (n : Int) ≤ 3000 := by omega
    go_enter Try.func4, Try.ntmps4
    go_wp2_with (first
      | (go_at_call 11; refine (S9.out _ B1).mono ?_; rintro e w2 ⟨v2, rfl, Y2, B2⟩; obtain ⟨ay, cy, rfl, y1, y2, y5⟩ := byt_n Y2 HL2.out; have HY5 : Hid (0 < n → ∃ b off, ay = some ⟨b, off, none⟩ ∧ ∀ t, t < n → w2.cell? ⟨b, off + t, none⟩ = some (.int .u8 (gb bs t))) := y5; clear Y2 y5)
      | (go_at_call 10; refine (S0.out _ (Below.refl _ _)).mono ?_; rintro e w1 ⟨v1, rfl, Y1, B1⟩; obtain ⟨ax, cx, rfl, x1, x2, x5⟩ := byt_n Y1 HL1.out; have HX5 : Hid (0 < n → ∃ b off, ax = some ⟨b, off, none⟩ ∧ ∀ t, t < n → w1.cell? ⟨b, off + t, none⟩ = some (.int .u8 (gb ps t))) := x5; clear Y1 x5))
    have BW : Below w.heap.size w w2 := B1.trans (B2.mono B1.size)
    go_loopw [5] (fun i wr => ∃ k : Nat, k ≤ n ∧ i = .int .i64 k ∧ Below w2.heap.size w2 wr) (fun i _ => n - (intOf i).toNat)
    case atStart => exact ⟨0, Nat.zero_le _, rfl, Below.refl _ _⟩
    case round =>
      obtain ⟨k, hk, rfl, hbel⟩ := hrel
      by_cases hlt : k < n
      · obtain ⟨bb, bo, rfl, hcb⟩ := H5.out (by omega)
        obtain ⟨xb, xo, rfl, hcx⟩ := HX5.out (by omega)
        obtain ⟨yb, yo, rfl, hcy⟩ := HY5.out (by omega)
        obtain ⟨c, hc⟩ : ∃ c : Nat, gb xs k = (c : Int) := ⟨(gb xs k).toNat, by have := HA.out k; omega⟩
        have hc8 : c < 256 := by have := HA.out k; omega
        have e1 : gb ps k = (sb c : Int) := by rw [HG1.out k hlt, hc, Int.toNat_natCast, gb_p c hc8]
        have e2 : gb bs k = (sk c : Int) := by rw [HG2.out k hlt, hc, Int.toNat_natCast, gb_b c hc8]
        have n1 := World.block_lt_of_cell? w _ (hcb k hlt)
        have n2 := World.block_lt_of_cell? w1 _ (hcx k hlt)
        have n3 := World.block_lt_of_cell? w2 _ (hcy k hlt)
        have z1 := B1.size
        have z2 := B2.size
        have CB : Hid (∀ w', Below w2.heap.size w2 w' → w'.cell? ⟨bb, bo + k, none⟩ = some (.int .u8 (c : Int))) := fun w' h => by
          rw [h.cell (show bb < w2.heap.size by have : bb < w.heap.size := n1; omega), BW.cell n1, hcb k hlt, hc]
        have CX : Hid (∀ w', Below w2.heap.size w2 w' → w'.cell? ⟨xb, xo + k, none⟩ = some (.int .u8 (sb c : Int))) := fun w' h => by
          rw [h.cell (show xb < w2.heap.size by have : xb < w1.heap.size := n2; omega), B2.cell n2, hcx k hlt, e1]
        have CY : Hid (∀ w', Below w2.heap.size w2 w' → w'.cell? ⟨yb, yo + k, none⟩ = some (.int .u8 (sk c : Int))) := fun w' h => by
          rw [h.cell n3, hcy k hlt, e2]
        have S1 : Hid (∀ w', Below w2.heap.size w2 w' → Calls Try.prog 6 #[.int .u8 (c : Int)] w' fun e w'' => e = .returned (.int .u8 (sb c : Int)) ∧ Below w2.heap.size w2 w'') := fun w' h => (sub_any c w' hc8).mono fun e w'' h' => ⟨h'.1, h.trans (h'.2.mono h.size)⟩
        have S2 : Hid (∀ w', Below w2.heap.size w2 w' → Calls Try.prog 8 #[.int .u8 (c : Int)] w' fun e w'' => e = .returned (.int .u8 (sk c : Int)) ∧ Below w2.heap.size w2 w'') := fun w' h => (back_any c w' hc8).mono fun e w'' h' => ⟨h'.1, h.trans (h'.2.mono h.size)⟩
        have S3 : Hid (∀ w', Below w2.heap.size w2 w' → Calls Try.prog 8 #[.int .u8 (sb c : Int)] w' fun e w'' => e = .returned (.int .u8 (c : Int)) ∧ Below w2.heap.size w2 w'') := fun w' h => by
          have := back_any (sb c) w' (sb_lt c hc8)
          rw [sk_sb c hc8] at this
          exact this.mono fun e w'' h' => ⟨h'.1, h.trans (h'.2.mono h.size)⟩
        have HBW : Hid (Below w.heap.size w w2) := BW
        clear hcb hcx hcy hc e1 e2 n1 n2 n3 hc8 BW
        generalize sb c = s at *
        generalize sk c = t at *
        have lk : (k : Int) < (n : Int) := by omega
        go_wp2
        refine region_quietC (C := fun w' => Below w2.heap.size w2 w') (by kernel_rfl) (by kernel_rfl) hbel.drew ?_
        refine wpQuiet_step (fun K hK => ?_)
        refine q_val (by rfl) (some 32) rfl (.slice (some ⟨xb, xo, none⟩) n cx) (fun w' _ => by rfl) (hK _ ?_)
        simp only [Act.put, List.setIfInBounds_toArray, List.set_cons_zero, List.set_cons_succ]
        clear hK K
        refine wpQuiet_step (fun K hK => ?_)
        refine q_val (by rfl) (some 33) rfl (.int .i64 (k : Int)) (fun w' _ => by rfl) (hK _ ?_)
        simp only [Act.put, List.setIfInBounds_toArray, List.set_cons_zero, List.set_cons_succ]
        clear hK K
        refine wpQuiet_step (fun K hK => ?_)
        refine q_idx (by rfl) (some 34) rfl (.tmp 32) (.tmp 33) rfl xb xo n cx k rfl rfl hlt (hK _ ?_)
        simp only [Act.put, List.setIfInBounds_toArray, List.set_cons_zero, List.set_cons_succ]
        clear hK K
        refine wpQuiet_step (fun K hK => ?_)
        refine q_get (by rfl) (some 35) rfl (.tmp 34) 5 rfl .u8 (s : Int) xb (xo + k) rfl Try.underlying5 CX.out (hK _ ?_)
        simp only [Act.put, List.setIfInBounds_toArray, List.set_cons_zero, List.set_cons_succ]
        clear hK K
        refine wpQuiet_step (fun K hK => ?_)
        refine q_val (by rfl) (some 36) rfl (.slice (some ⟨bb, bo, none⟩) n cb) (fun w' _ => by rfl) (hK _ ?_)
        simp only [Act.put, List.setIfInBounds_toArray, List.set_cons_zero, List.set_cons_succ]
        clear hK K
        refine wpQuiet_step (fun K hK => ?_)
        refine q_val (by rfl) (some 37) rfl (.int .i64 (k : Int)) (fun w' _ => by rfl) (hK _ ?_)
        simp only [Act.put, List.setIfInBounds_toArray, List.set_cons_zero, List.set_cons_succ]
        clear hK K
        refine wpQuiet_step (fun K hK => ?_)
        refine q_idx (by rfl) (some 38) rfl (.tmp 36) (.tmp 37) rfl bb bo n cb k rfl rfl hlt (hK _ ?_)
        simp only [Act.put, List.setIfInBounds_toArray, List.set_cons_zero, List.set_cons_succ]
        clear hK K
        refine wpQuiet_step (fun K hK => ?_)
        refine q_get (by rfl) (some 39) rfl (.tmp 38) 5 rfl .u8 (c : Int) bb (bo + k) rfl Try.underlying5 CB.out (hK _ ?_)
        simp only [Act.put, List.setIfInBounds_toArray, List.set_cons_zero, List.set_cons_succ]
        clear hK K
        refine wpQuiet_step (fun K hK => ?_)
        refine q_call (by rfl) (some 40) rfl 6 #[(.tmp 39)] #[5] rfl (fun q w' => by rfl) #[.int .u8 (c : Int)] (by simp only [List.map_toArray, List.map_cons, List.map_nil]; rfl) (.int .u8 (s : Int)) S1.out (hK _ ?_)
        simp only [Act.put, List.setIfInBounds_toArray, List.set_cons_zero, List.set_cons_succ]
        clear hK K
        refine wpQuiet_step (fun K hK => ?_)
        refine q_neq (by rfl) (some 41) rfl (.tmp 35) (.tmp 40) 5 _ rfl .u8 (s : Int) rfl rfl (hK _ ?_)
        simp only [Act.put, List.setIfInBounds_toArray, List.set_cons_zero, List.set_cons_succ]
        clear hK K
        refine wpQuiet_step (fun K hK => ?_)
        refine q_val (by rfl) (some 42) rfl (.bool false) (fun w' _ => by rfl) (hK _ ?_)
        simp only [Act.put, List.setIfInBounds_toArray, List.set_cons_zero, List.set_cons_succ]
        clear hK K
        refine wpQuiet_step (fun K hK => ?_)
        refine q_val (by rfl) (some 43) rfl (.slice (some ⟨yb, yo, none⟩) n cy) (fun w' _ => by rfl) (hK _ ?_)
        simp only [Act.put, List.setIfInBounds_toArray, List.set_cons_zero, List.set_cons_succ]
        clear hK K
        refine wpQuiet_step (fun K hK => ?_)
        refine q_val (by rfl) (some 44) rfl (.int .i64 (k : Int)) (fun w' _ => by rfl) (hK _ ?_)
        simp only [Act.put, List.setIfInBounds_toArray, List.set_cons_zero, List.set_cons_succ]
        clear hK K
        refine wpQuiet_step (fun K hK => ?_)
        refine q_idx (by rfl) (some 45) rfl (.tmp 43) (.tmp 44) rfl yb yo n cy k rfl rfl hlt (hK _ ?_)
        simp only [Act.put, List.setIfInBounds_toArray, List.set_cons_zero, List.set_cons_succ]
        clear hK K
        refine wpQuiet_step (fun K hK => ?_)
        refine q_get (by rfl) (some 46) rfl (.tmp 45) 5 rfl .u8 (t : Int) yb (yo + k) rfl Try.underlying5 CY.out (hK _ ?_)
        simp only [Act.put, List.setIfInBounds_toArray, List.set_cons_zero, List.set_cons_succ]
        clear hK K
        refine wpQuiet_step (fun K hK => ?_)
        refine q_val (by rfl) (some 47) rfl (.slice (some ⟨bb, bo, none⟩) n cb) (fun w' _ => by rfl) (hK _ ?_)
        simp only [Act.put, List.setIfInBounds_toArray, List.set_cons_zero, List.set_cons_succ]
        clear hK K
        refine wpQuiet_step (fun K hK => ?_)
        refine q_val (by rfl) (some 48) rfl (.int .i64 (k : Int)) (fun w' _ => by rfl) (hK _ ?_)
        simp only [Act.put, List.setIfInBounds_toArray, List.set_cons_zero, List.set_cons_succ]
        clear hK K
        refine wpQuiet_step (fun K hK => ?_)
        refine q_idx (by rfl) (some 49) rfl (.tmp 47) (.tmp 48) rfl bb bo n cb k rfl rfl hlt (hK _ ?_)
        simp only [Act.put, List.setIfInBounds_toArray, List.set_cons_zero, List.set_cons_succ]
        clear hK K
        refine wpQuiet_step (fun K hK => ?_)
        refine q_get (by rfl) (some 50) rfl (.tmp 49) 5 rfl .u8 (c : Int) bb (bo + k) rfl Try.underlying5 CB.out (hK _ ?_)
        simp only [Act.put, List.setIfInBounds_toArray, List.set_cons_zero, List.set_cons_succ]
        clear hK K
        refine wpQuiet_step (fun K hK => ?_)
        refine q_call (by rfl) (some 51) rfl 8 #[(.tmp 50)] #[5] rfl (fun q w' => by rfl) #[.int .u8 (c : Int)] (by simp only [List.map_toArray, List.map_cons, List.map_nil]; rfl) (.int .u8 (t : Int)) S2.out (hK _ ?_)
        simp only [Act.put, List.setIfInBounds_toArray, List.set_cons_zero, List.set_cons_succ]
        clear hK K
        refine wpQuiet_step (fun K hK => ?_)
        refine q_neq (by rfl) (some 52) rfl (.tmp 46) (.tmp 51) 5 _ rfl .u8 (t : Int) rfl rfl (hK _ ?_)
        simp only [Act.put, List.setIfInBounds_toArray, List.set_cons_zero, List.set_cons_succ]
        clear hK K
        refine wpQuiet_step (fun K hK => ?_)
        refine q_val (by rfl) (some 53) rfl (.bool false) (fun w' _ => by rfl) (hK _ ?_)
        simp only [Act.put, List.setIfInBounds_toArray, List.set_cons_zero, List.set_cons_succ]
        clear hK K
        refine wpQuiet_step (fun K hK => ?_)
        refine q_val (by rfl) (some 54) rfl (.bool false) (fun w' _ => by rfl) (hK _ ?_)
        simp only [Act.put, List.setIfInBounds_toArray, List.set_cons_zero, List.set_cons_succ]
        clear hK K
        refine wpQuiet_step (fun K hK => ?_)
        refine q_val (by rfl) (some 55) rfl (.slice (some ⟨xb, xo, none⟩) n cx) (fun w' _ => by rfl) (hK _ ?_)
        simp only [Act.put, List.setIfInBounds_toArray, List.set_cons_zero, List.set_cons_succ]
        clear hK K
        refine wpQuiet_step (fun K hK => ?_)
        refine q_val (by rfl) (some 56) rfl (.int .i64 (k : Int)) (fun w' _ => by rfl) (hK _ ?_)
        simp only [Act.put, List.setIfInBounds_toArray, List.set_cons_zero, List.set_cons_succ]
        clear hK K
        refine wpQuiet_step (fun K hK => ?_)
        refine q_idx (by rfl) (some 57) rfl (.tmp 55) (.tmp 56) rfl xb xo n cx k rfl rfl hlt (hK _ ?_)
        simp only [Act.put, List.setIfInBounds_toArray, List.set_cons_zero, List.set_cons_succ]
        clear hK K
        refine wpQuiet_step (fun K hK => ?_)
        refine q_get (by rfl) (some 58) rfl (.tmp 57) 5 rfl .u8 (s : Int) xb (xo + k) rfl Try.underlying5 CX.out (hK _ ?_)
        simp only [Act.put, List.setIfInBounds_toArray, List.set_cons_zero, List.set_cons_succ]
        clear hK K
        refine wpQuiet_step (fun K hK => ?_)
        refine q_call (by rfl) (some 59) rfl 8 #[(.tmp 58)] #[5] rfl (fun q w' => by rfl) #[.int .u8 (s : Int)] (by simp only [List.map_toArray, List.map_cons, List.map_nil]; rfl) (.int .u8 (c : Int)) S3.out (hK _ ?_)
        simp only [Act.put, List.setIfInBounds_toArray, List.set_cons_zero, List.set_cons_succ]
        clear hK K
        refine wpQuiet_step (fun K hK => ?_)
        refine q_val (by rfl) (some 60) rfl (.slice (some ⟨bb, bo, none⟩) n cb) (fun w' _ => by rfl) (hK _ ?_)
        simp only [Act.put, List.setIfInBounds_toArray, List.set_cons_zero, List.set_cons_succ]
        clear hK K
        refine wpQuiet_step (fun K hK => ?_)
        refine q_val (by rfl) (some 61) rfl (.int .i64 (k : Int)) (fun w' _ => by rfl) (hK _ ?_)
        simp only [Act.put, List.setIfInBounds_toArray, List.set_cons_zero, List.set_cons_succ]
        clear hK K
        refine wpQuiet_step (fun K hK => ?_)
        refine q_idx (by rfl) (some 62) rfl (.tmp 60) (.tmp 61) rfl bb bo n cb k rfl rfl hlt (hK _ ?_)
        simp only [Act.put, List.setIfInBounds_toArray, List.set_cons_zero, List.set_cons_succ]
        clear hK K
        refine wpQuiet_step (fun K hK => ?_)
        refine q_get (by rfl) (some 63) rfl (.tmp 62) 5 rfl .u8 (c : Int) bb (bo + k) rfl Try.underlying5 CB.out (hK _ ?_)
        simp only [Act.put, List.setIfInBounds_toArray, List.set_cons_zero, List.set_cons_succ]
        clear hK K
        refine wpQuiet_step (fun K hK => ?_)
        refine q_neq (by rfl) (some 64) rfl (.tmp 59) (.tmp 63) 5 _ rfl .u8 (c : Int) rfl rfl (hK _ ?_)
        simp only [Act.put, List.setIfInBounds_toArray, List.set_cons_zero, List.set_cons_succ]
        clear hK K
        refine wpQuiet_step (fun K hK => ?_)
        refine q_val (by rfl) (some 65) rfl (.bool false) (fun w' _ => by rfl) (hK _ ?_)
        simp only [Act.put, List.setIfInBounds_toArray, List.set_cons_zero, List.set_cons_succ]
        clear hK K
        refine wpQuiet_nil ?_
        intro w3 B3
        go_wp2
        go_roundw
        case rel => exact ⟨k + 1, by omega, by go_num, B3⟩
        case measure => simp [intOf]; omega
      · have hks : k = n := by omega
        subst hks
        go_wp2_with (go_at_call 9; refine (awake_any _).mono ?_; rintro e w4 ⟨rfl, B4⟩)
        go_ret
        exact ⟨rfl, (BW.trans (hbel.mono BW.size)).trans (B4.mono (by have := BW.size; have := hbel.size; omega))⟩

theorem params : ∀ t ∈ Try.f4.params.toList, Try.prog.readableRec t = true ∧ t < Try.prog.types.size := by
  rw [Try.params4]
  intro t ht
  simp at ht
  subst ht
  exact ⟨by kernel_rfl, of_decide_eq_true (by kernel_rfl)⟩

theorem contract (H : Type) (enc : TypeId × Value → H) (W : World) (base : Nat) (args : Array Value) (ds gs : List (DataW H)) (before : List MemPlace)
    (hval : ∀ (j : Nat) t v, Try.f4.params[j]? = some t → args[j]? = some v → Value.okWide Try.prog W .any base t v)
    (hW : DataW.Whole enc Try.prog Try.f4.params.toList Rows.sboxListsSpec.vars false W args.toList ds gs before) :
    Calls Try.prog 4 args W fun e W' => ∃ v, e = .returned v ∧ Rows.sboxListsSpec.post enc Try.prog Try.f4 false true false false W args v W' := by
  have hW' := hW
  obtain ⟨p, q, hA0, hV, rfl, hfz, hnd⟩ := hW
  have hA : DataW.TrodAll enc Try.prog W 0 (fun _ => true) true Try.f4.params.toList args.toList ds p := hA0
  rw [Try.params4] at hA hval
  obtain ⟨v0, d0, rfl, rfl, h0⟩ := trodAll_one hA
  obtain ⟨rfl, rfl⟩ := trodVars_none hV
  obtain ⟨xs0, b0⟩ := byt_open (hval 0 25 v0 rfl rfl) h0
  clear hA0
  refine (walk v0 xs0 W b0).mono fun e W' ⟨he, hg⟩ => ?_
  subst he
  exact ⟨_, rfl, post_law rfl (by kernel_rfl) params rfl rfl rfl hW' hg⟩

theorem laid_met (os : Os) : laidMet Try.prog Rows.sboxListsRow.laid ((World.holding Try.prog os ⟨#[], #[], []⟩).forCall (fun _ _ => 0) ⟨#[], #[.slice none 0 0], []⟩).memory :=
  laidMet_of_run' 8 (by kernel_rfl) (by kernel_rfl)
theorem reads (os : Os) {H : Type} (enc : TypeId × Value → H) : ∃ places, DataW.whole enc Try.prog ((World.holding Try.prog os ⟨#[], #[], []⟩).forCall (fun _ _ => 0) ⟨#[], #[.slice none 0 0], []⟩).memory Try.f4.params.toList Rows.sboxListsSpec.vars false #[Value.slice none 0 0].toList 8 = some ([.nil], [], places) :=
  ⟨[], by kernel_rfl⟩

set_option maxRecDepth 100000 in
theorem lifted (os : Os) (started : os.Started) (H : Type) (enc : TypeId × Value → H) (F : Stop.Interp) :
    ReturnsInHanded {} Try.checked os 4 .any ((OpenSpec.ofChange Rows.sboxListsSpec).preRow enc Try.prog Try.f4 Rows.sboxListsRow.domain false Rows.sboxListsRow.laid) (((OpenSpec.ofChange Rows.sboxListsSpec).at F).post enc Try.prog Try.f4 false true false false) := by
  obtain ⟨places, hx⟩ := reads os enc
  refine returnsInHanded_of_row (C := Try.checked) (s := OpenSpec.ofChange Rows.sboxListsSpec) own started (by kernel_rfl) Try.func4
    (witness_row_at (enc := enc) (C := Try.checked) false (World.holding Try.prog os ⟨#[], #[], []⟩) #[.slice none 0 0] rfl (by kernel_rfl) (by kernel_rfl) (by kernel_rfl)
      (OpenSpec.preRow_of_cond 8 hx (by kernel_rfl) (fun k hk => by cases hk) (by kernel_rfl) (laid_met os))) ?_
  intro W base args ds gs before hval hW _ _ _ _ _ _
  exact contract H enc W base args ds gs before hval hW

theorem said : Rows.SboxListsSaid :=
  OpenClaim.holds_of_cond 4 Try.f4 rfl rfl rfl rfl rfl rfl rfl ⟨rfl, rfl, rfl, rfl, rfl⟩ rfl rfl rfl rfl rfl (by kernel_rfl) Try.func4 (by kernel_rfl)
    (of_decide_eq_true (by kernel_rfl)) (by unfold Func.isWrapper; first | (rw [if_pos (by decide +kernel)]; kernel_rfl) | (rw [if_neg (by decide +kernel)]; exact ⟨rfl, rfl⟩))
    (fun os started H enc _ F => by rw [OpenClaim.pre_eq_preRow]; exact lifted os started H enc F)
end Go.Proofs.Ytdchelbobmdmpaa.sboxLists

namespace Go.Proofs.Ytdchelbobmdmpaa
theorem sboxLists_said : Rows.SboxListsSaid := sboxLists.said
#print axioms sboxLists_said
end Go.Proofs.Ytdchelbobmdmpaa
