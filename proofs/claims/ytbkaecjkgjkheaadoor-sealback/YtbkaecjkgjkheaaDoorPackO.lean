/- Texts put together (a claim holds few files). No claim of its own. -/
import Derived.Test.YtbkaecjkgjkheaaDoorPackN
import Derived.Test.YtbkaecjkgjkheaaDoorPackA
import Derived.Test.YtbkaecjkgjkheaaDoorPackB
import Derived.Test.YtbkaecjkgjkheaaDoorPackD
import Derived.Laws.AppendOwnNone
/- What mac's tags answer. No claim of its own. -/
namespace Go.Proofs.YtbkaecjkgjkheaaDoor.mc
open Go.RowKit
set_option maxRecDepth 20000

theorem Has.heap {w w' : World} {b : Nat} {xs : List Int} (h : Has w b xs) (e : w'.heap[b]? = w.heap[b]?) : Has w' b xs := by
  obtain ⟨st, tl, ⟨h1, h2, h3⟩, h⟩ := h
  exact ⟨st, tl, ⟨h1.heap e, h2.heap e, h3.heap e⟩, h⟩
theorem flat_take (ls : List (List Int)) (k : Nat) (h : k < ls.length) : (ls.take (k + 1)).flatten = (ls.take k).flatten ++ ls.getD k [] := by
  rw [List.take_succ_eq_append_getElem h, List.flatten_append]
  simp [List.getD, h]
theorem flat_le (ls : List (List Int)) (k : Nat) : (ls.take k).flatten.length ≤ ls.flatten.length := by
  have : ls.flatten = (ls.take k).flatten ++ (ls.drop k).flatten := by rw [← List.flatten_append, List.take_append_drop]
  rw [this]; simp
theorem flat_all (ls : List (List Int)) (h : ∀ r, AllB (ls.getD r [])) (k : Nat) : AllB (ls.take k).flatten := allB_mem fun x hx => by
  obtain ⟨l, hl, hxl⟩ := List.mem_flatten.1 hx
  obtain ⟨r, hr, rfl⟩ := List.getElem_of_mem (List.mem_of_mem_take hl)
  obtain ⟨j, hj, rfl⟩ := List.getElem_of_mem hxl
  have := h r j
  simpa [gb, List.getD, hr, hj] using this
theorem Bts.all {w : World} {v : Value} {ls : List (List Int)} (h : Bts w v ls) (r : Nat) : AllB (ls.getD r []) := by
  obtain ⟨ao, cap, rfl, h1, h2, h5, h6⟩ := h
  by_cases hr : r < ls.length
  · obtain ⟨b, off, -, hc⟩ := h5 (by omega)
    obtain ⟨u, -, hu⟩ := hc r hr
    exact hu.all
  · rw [List.getD_eq_getElem?_getD, List.getElem?_eq_none (by omega)]
    exact allB_mem (by simp)
theorem Bts.below {w w' : World} {v : Value} {ls : List (List Int)} (h : Bts w v ls) (hb : Below w.heap.size w w') : Bts w' v ls := by
  obtain ⟨ao, cap, rfl, h1, h2, h5, h6⟩ := h
  refine ⟨ao, cap, rfl, h1, h2, fun hp => ?_, h6⟩
  obtain ⟨b, off, rfl, hc⟩ := h5 hp
  refine ⟨b, off, rfl, fun r hr => ?_⟩
  obtain ⟨u, hu, hub⟩ := hc r hr
  exact ⟨u, (hb.cell (World.block_lt_of_cell? w _ hu)).trans hu, hub.below hb⟩
/-- a slice that a call has made lasts what is written to a hash elsewhere -/
theorem kept64 {w : World} {g b n : Nat} {xs : List Int} (h : Ar w g 0 .u8 xs) (ha : AllB xs) (hn : xs.length = n) (hp : 0 < n) (hm : n ≤ 100000) (hne : g ≠ b) : Kept b w (.slice (some ⟨g, 0, none⟩) n n) xs := by
  subst hn
  exact h.kept ha hp (by omega) hne

set_option maxHeartbeats 4000000 in
theorem ktag_own (w : World) (kv : Value) (bl : List Int) (v : Value) (ls : List (List Int)) (hk : KeyV w kv bl) (hb : Bts w v ls) (hm : ls.flatten.length ≤ 100000) :
    Calls Tryd.prog 20 #[kv, v] w fun e w' => ∃ g, e = .returned (.slice (some ⟨g, 0, none⟩) 32 32) ∧ w.heap.size ≤ g ∧ Ar w' g 0 .u8 (tagB bl ls.flatten) ∧ Below w.heap.size w w' := by
  have HK : Hid (KeyV w kv bl) := hk
  have HM : Hid (ls.flatten.length ≤ 100000) := hm
  have HFT : Hid (∀ k, k < ls.length → (ls.take (k + 1)).flatten = (ls.take k).flatten ++ ls.getD k []) := flat_take ls
  have HFL : Hid (∀ k, (ls.take k).flatten.length ≤ 100000) := fun k => Nat.le_trans (flat_le ls k) hm
  have HFA : Hid (∀ k, AllB (ls.take k).flatten) := flat_all ls hb.all
  have HF0 : Hid ((ls.take 0).flatten = []) := by show _ = _; simp
  have HFE : Hid ((ls.take ls.length).flatten = ls.flatten) := by show _ = _; rw [List.take_length]
  have HP1 : Hid ((pdd bl 54).length = 64 ∧ AllB (pdd bl 54)) := ⟨pdd_len bl 54 hk.len, pdd_all bl 54 hk.len hk.all (by omega)⟩
  have HP2 : Hid ((pdd bl 92).length = 64 ∧ AllB (pdd bl 92)) := ⟨pdd_len bl 92 hk.len, pdd_all bl 92 hk.len hk.all (by omega)⟩
  have HT : Hid (tagB bl ls.flatten = sumOf (pdd bl 92 ++ sumOf (pdd bl 54 ++ ls.flatten))) := rfl
  have HPA1 : Hid (∀ w0, KeyV w0 kv bl → Calls Tryd.prog 34 #[kv, .int .u8 54] w0 fun e w' => ∃ g, e = .returned (.slice (some ⟨g, 0, none⟩) 64 64) ∧ w0.heap.size ≤ g ∧ Ar w' g 0 .u8 (pdd bl 54) ∧ Below w0.heap.size w0 w') := fun w0 h => padded_any w0 kv bl 54 h (by omega)
  have HPA2 : Hid (∀ w0, KeyV w0 kv bl → Calls Tryd.prog 34 #[kv, .int .u8 92] w0 fun e w' => ∃ g, e = .returned (.slice (some ⟨g, 0, none⟩) 64 64) ∧ w0.heap.size ≤ g ∧ Ar w' g 0 .u8 (pdd bl 92) ∧ Below w0.heap.size w0 w') := fun w0 h => padded_any w0 kv bl 92 h (by omega)
  generalize tagB bl ls.flatten = T at *
  generalize pdd bl 54 = p1 at *
  generalize pdd bl 92 = p2 at *
  have HHS : Hid (∀ w0 b l, Has w0 b l → AllB l → l.length ≤ 1000000 → Calls Tryd.prog 35 #[.pointer (some ⟨b, 0, none⟩)] w0 fun e w' => ∃ v, e = .returned v ∧ Byt w' v (sumOf l) ∧ (∃ g, v = .slice (some ⟨g, 0, none⟩) 32 32 ∧ w0.heap.size ≤ g ∧ Ar w' g 0 .u8 (sumOf l)) ∧ Below w0.heap.size w0 w') := fun w0 b l h h2 h3 => hsum_any w0 b l h h2 h3
  have HSL : Hid (∀ l, (sumOf l).length = 32 ∧ AllB (sumOf l)) := fun l => ⟨sumOf_len l, sumOf_all l⟩
  generalize sumOf = SM at *
  have HEA : Hid (AllB []) := allB_mem (by simp)
  obtain ⟨ao, ca, rfl, ha1, ha2, ha5, -⟩ := hb
  obtain ⟨n, hn⟩ : ∃ n, n = ls.length := ⟨_, rfl⟩
  rw [← hn] at ha1 ha5 HFT HFE ⊢
  have HA5 : Hid (0 < n → ∃ b off, ao = some ⟨b, off, none⟩ ∧ ∀ r, r < n → ∃ u, w.cell? ⟨b, off + r, none⟩ = some u ∧ Byt w u (ls.getD r [])) := ha5
  have n2 : (n : Int) ≤ 9223372036854775807 := by omega
  clear hn ha5 hk hm
  obtain ⟨FT, hFT⟩ : ∃ FT : Nat → List Int, FT = fun k => (ls.take k).flatten := ⟨_, rfl⟩
  have HFT' : Hid (∀ k, k < n → FT (k + 1) = FT k ++ ls.getD k []) := by rw [hFT]; exact HFT.out
  have HFL' : Hid (∀ k, (FT k).length ≤ 100000) := by rw [hFT]; exact HFL.out
  have HFA' : Hid (∀ k, AllB (FT k)) := by rw [hFT]; exact HFA.out
  have HF0' : Hid (FT 0 = []) := by rw [hFT]; exact HF0.out
  have HFE' : Hid (FT n = ls.flatten) := by rw [hFT]; exact HFE.out
  clear hFT HFT HFL HFA HF0 HFE
  go_enter Tryd.func20, Tryd.ntmps20
  go_wp2_with (first
    | (go_at_call 32; refine (new_any _).mono ?_; rintro e w1 ⟨b, rfl, hb0, hH1, B1⟩; have HH1 : Hid (Has w1 b []) := hH1; have hb1 : b < w1.heap.size := hH1.lt; clear hH1; have s1 := B1.size; have HK1 : Hid (KeyV w1 kv bl) := HK.out.below B1)
    | (go_at_call 34; refine (HPA1.out _ HK1.out).mono ?_; rintro e w2 ⟨g2, rfl, hg2, hA2, B2⟩; have HK2 : Hid (Kept b w2 (.slice (some ⟨g2, 0, none⟩) 64 64) p1) := kept64 hA2 HP1.out.2 HP1.out.1 (by omega) (by omega) (by omega); have HH2 : Hid (Has w2 b []) := HH1.out.below B2 hb1; have C2 : Below w.heap.size w w2 := B1.trans (B2.mono s1); have s2 := C2.size; clear hA2)
    | (go_at_call 33; refine (write_any _ b [] p1 _ HH2.out HEA.out HK2.out (by have := HP1.out.1; simp; omega)).mono ?_; rintro e w3 ⟨rfl, hH3, hB3⟩; rw [List.nil_append] at hH3; have HH3 : Hid (Has w3 b p1) := hH3; have C3 : Below w.heap.size w w3 := C2.trans (hB3.below hb0 s2); clear hH3 hB3))
  go_loopw [16] (fun i wr => ∃ k : Nat, k ≤ n ∧ i = .int .i64 k ∧ Has wr b (p1 ++ FT k) ∧ Below w.heap.size w wr) (fun i _ => n - (intOf i).toNat)
  case atStart => exact ⟨0, Nat.zero_le _, rfl, by rw [HF0'.out, List.append_nil]; exact HH3.out, C3⟩
  case round =>
    obtain ⟨k, hk, rfl, hH, hbel⟩ := hrel
    have k0 : (0 : Int) ≤ (k : Int) := by omega
    have q1 : IntKind.i64.wrap (k : Int) = k := by rw [IntKind.wrap_i64]; omega
    have HH : Hid (Has wr b (p1 ++ FT k)) := hH
    have hbl := hH.lt
    have hsz := hbel.size
    have HPF : Hid (AllB (p1 ++ FT k) ∧ (p1 ++ FT k).length ≤ 100064) := ⟨allB_append HP1.out.2 (HFA'.out k), by have := HP1.out.1; have := HFL'.out k; simp; omega⟩
    clear hH
    by_cases hlt : k < n
    · have k1 : (k : Int) < (n : Int) := by omega
      have k2 : (k : Int) + 1 ≤ 9223372036854775807 := by omega
      obtain ⟨bl', ol, rfl, hcl⟩ := HA5.out (by omega)
      obtain ⟨u, hu, hub⟩ := hcl k hlt
      have hul := World.block_lt_of_cell? w _ hu
      have xu : wr.cell? ⟨bl', ol + k, none⟩ = some u := (hbel.cell hul).trans hu
      have HKu : Hid (Kept b wr u (ls.getD k [])) := hub.kept hbel hb0
      have HE : Hid (p1 ++ FT k ++ ls.getD k [] = p1 ++ FT (k + 1)) := by show _ = _; rw [HFT'.out k hlt, List.append_assoc]
      have HE2 : Hid ((p1 ++ FT (k + 1)).length ≤ 100064) := by have := HP1.out.1; have := HFL'.out (k + 1); show _ ≤ _; simp; omega
      generalize ls.getD k [] = xs at *
      generalize p1 ++ FT k = acc at *
      obtain ⟨acc2, hacc2⟩ : ∃ x, x = p1 ++ FT (k + 1) := ⟨_, rfl⟩
      rw [← hacc2] at HE HE2
      have HACC : Hid (acc2 = p1 ++ FT (k + 1)) := hacc2
      clear hacc2
      clear hcl hub
      go_wp2_with (go_at_call 33; refine (write_any _ b acc xs _ HH.out HPF.out.1 HKu.out (by have h1 := HE2.out; rw [← HE.out, List.length_append] at h1; omega)).mono ?_; rintro e w4 ⟨rfl, hH4, hB4⟩; rw [HE.out] at hH4; have HH4 : Hid (Has w4 b acc2) := hH4; have C4 : Below w.heap.size w w4 := hbel.trans (hB4.below hb0 hsz); clear hH4 hB4)
      go_roundw
      case rel => exact ⟨k + 1, by omega, by go_num, by rw [← HACC.out]; exact HH4.out, C4⟩
      case measure => simp [intOf]; omega
    · have hkn : k = n := by omega
      subst hkn
      rw [HFE'.out] at HH HPF
      have HKr : Hid (KeyV wr kv bl) := HK.out.below hbel
      generalize ls.flatten = all at *
      go_wp2_with (first
        | (go_at_call 35; refine (HHS.out _ b2 _ HH9.out (allB_append HP2.out.2 (HSL.out _).2) (by have := HP2.out.1; have := (HSL.out (p1 ++ all)).1; simp; omega)).mono ?_; rintro e wa ⟨va, rfl, -, ⟨ga, rfl, hga, hAa⟩, Ba⟩; rw [← HT.out] at hAa; have HAa : Hid (Ar wa ga 0 .u8 T) := hAa; clear hAa)
        | (go_at_call 33; refine (write_any _ b2 p2 (SM (p1 ++ all)) _ HH8.out HP2.out.2 HK8.out (by have := HP2.out.1; have := (HSL.out (p1 ++ all)).1; omega)).mono ?_; rintro e w9 ⟨rfl, hH9, hB9⟩; have HH9 : Hid (Has w9 b2 (p2 ++ SM (p1 ++ all))) := hH9; have C9 : Below w.heap.size w w9 := C8.trans (hB9.below (by omega) C8.size); clear hH9 hB9)
        | (go_at_call 35; refine (HHS.out _ b _ HI7.out HPF.out.1 (by have := HPF.out.2; omega)).mono ?_; rintro e w8 ⟨v8, rfl, -, ⟨g8, rfl, hg8, hA8⟩, B8⟩; have s8 := B8.size; have HK8 : Hid (Kept b2 w8 (.slice (some ⟨g8, 0, none⟩) 32 32) (SM (p1 ++ all))) := kept64 hA8 (HSL.out _).2 (HSL.out _).1 (by omega) (by omega) (by omega); have HH8 : Hid (Has w8 b2 p2) := HH7.out.below B8 hb27; have C8 : Below w.heap.size w w8 := C7.trans (B8.mono C7.size); clear hA8)
        | (go_at_call_of 33 (Value.pointer (some ⟨b2, 0, none⟩)); refine (write_any _ b2 [] p2 _ HH6.out HEA.out HK6.out (by have := HP2.out.1; simp; omega)).mono ?_; rintro e w7 ⟨rfl, hH7, hB7⟩; rw [List.nil_append] at hH7; have HH7 : Hid (Has w7 b2 p2) := hH7; have hb27 : b2 < w7.heap.size := hH7.lt; have HI7 : Hid (Has w7 b (p1 ++ all)) := HI6.out.heap (hB7.block b hbb (by omega)); have s7 := hB7.size; have C7 : Below w.heap.size w w7 := C6.trans (hB7.below (by omega) (by omega)); clear hH7 hB7)
        | (go_at_call 34; refine (HPA2.out _ HK5.out).mono ?_; rintro e w6 ⟨g6, rfl, hg6, hA6, B6⟩; have HK6 : Hid (Kept b2 w6 (.slice (some ⟨g6, 0, none⟩) 64 64) p2) := kept64 hA6 HP2.out.2 HP2.out.1 (by omega) (by omega) (by omega); have HH6 : Hid (Has w6 b2 []) := HH5.out.below B6 hb21; have s6 := B6.size; have hbb : b < w6.heap.size := (by omega); have HI6 : Hid (Has w6 b (p1 ++ all)) := (HH.out.below B5 hbl).below B6 (by omega); have C6 : Below w.heap.size w w6 := hbel.trans ((B5.mono hsz).trans (B6.mono (by omega))); clear hA6)
        | (go_at_call 32; refine (new_any _).mono ?_; rintro e w5 ⟨b2, rfl, hb20, hH5, B5⟩; have HH5 : Hid (Has w5 b2 []) := hH5; have hb21 : b2 < w5.heap.size := hH5.lt; clear hH5; have s5 := B5.size; have HK5 : Hid (KeyV w5 kv bl) := HKr.out.below B5))
      go_ret
      exact ⟨ga, rfl, Nat.le_trans C9.size hga, HAa.out, C9.trans (Ba.mono C9.size)⟩

theorem tagB_len (bl t : List Int) : (tagB bl t).length = 32 := sumOf_len _
theorem tagB_all (bl t : List Int) : AllB (tagB bl t) := sumOf_all _
theorem ar32_byt {w : World} {g : Nat} {xs : List Int} (h : Ar w g 0 .u8 xs) (ha : AllB xs) (hl : xs.length = 32) (cap : Nat) (h1 : 32 ≤ cap) (h2 : cap ≤ 9223372036854775807) : Byt w (.slice (some ⟨g, 0, none⟩) 32 cap) xs := by
  have := h.byt ha 0 32 cap (by omega) (by omega) (by omega) h2
  rwa [List.take_of_length_le (by omega), List.drop_zero] at this
theorem ktag_any (w : World) (kv : Value) (bl : List Int) (v : Value) (ls : List (List Int)) (hk : KeyV w kv bl) (hb : Bts w v ls) (hm : ls.flatten.length ≤ 100000) :
    Calls Tryd.prog 20 #[kv, v] w fun e w' => ∃ v', e = .returned v' ∧ Byt w' v' (tagB bl ls.flatten) ∧ Below w.heap.size w w' :=
  (ktag_own w kv bl v ls hk hb hm).mono fun _ _ ⟨_, he, _, hA, hbl⟩ => ⟨_, he, ar32_byt hA (tagB_all _ _) (tagB_len _ _) 32 (by omega) (by omega), hbl⟩
end Go.Proofs.YtbkaecjkgjkheaaDoor.mc

/- What mac's Tag and Fits answer, and a key's Fits. No claim of its own. -/
namespace Go.Proofs.YtbkaecjkgjkheaaDoor.mc
open Go.RowKit
set_option maxRecDepth 20000

theorem cell_new (w : World) (x : Value) (t : TypeId) : (w.alloc (.cells #[x] t)).cell? ⟨w.heap.size, 0, none⟩ = some x := by
  rw [cell_of_row (w.alloc (.cells #[x] t)) w.heap.size 0 _ t (0, 0) (heap_alloc_last w _)]
  rfl
/-- a slice of one slice of bytes -/
theorem bts_one {w : World} {u : Value} {ts : List Int} (h : Byt w u ts) (hl : ts.length ≤ 1000000) : Bts (w.alloc (.cells #[u] 22)) (.slice (some ⟨w.heap.size, 0, none⟩) 1 1) [ts] := by
  have hb : Below w.heap.size w (w.alloc (.cells #[u] 22)) := (Below.refl _ _).alloc (Nat.le_refl _) _
  refine ⟨_, _, rfl, by simp, by simp, fun _ => ⟨w.heap.size, 0, rfl, fun r hr => ?_⟩, fun r => ?_⟩
  · have : r = 0 := by simp at hr; exact hr
    subst this
    exact ⟨u, cell_new w u 22, h.below hb⟩
  · match r with
    | 0 => simp [List.getD]; omega
    | r + 1 => simp [List.getD]

section
variable {ops : Array Oper} {rest : List Oper} {o : Oper} {a : Act} {Q : Exit → Act → World → Prop}
/-- '[][]byte{u}', the world gets a name -/
theorem one_law (w : World) (hg : o.guard = none) (x : Operand) (hop : o.op = Op.buildSlice 66 1 #[(0, x)]) (uo : Option Addr) (n uc : Nat) (ts : List Int) (hx : a.eval x = .slice uo n uc) (h : Byt w (.slice uo n uc) ts) (hl : ts.length ≤ 1000000)
    (hK : ∀ w', Bts w' (.slice (some ⟨w.heap.size, 0, none⟩) 1 1) [ts] → Below w.heap.size w w' → wpList Tryd.prog ops Q rest (a.put o.dst (.slice (some ⟨w.heap.size, 0, none⟩) 1 1)) w') : wpList Tryd.prog ops Q (o :: rest) a w := by
  refine wpList_plain hg fun K hK' => ?_
  have hrun : (Instr.buildSlice 66 1 #[(0, .slice uo n uc)]).run Tryd.prog w = .ok (.slice (some ⟨w.heap.size, 0, none⟩) 1 1) (w.alloc (.cells #[.slice uo n uc] 22)) := by kernel_rfl
  unfold Oper.wp execOp
  simp only [hop, List.map_toArray, List.map_cons, List.map_nil, hx, Sem.run_bind, Sem.run_pure, Result.andThen_ok, hrun]
  exact hK' _ _ (hK _ (bts_one h hl) ((Below.refl _ _).alloc (Nat.le_refl _) _))
end

theorem blk_key {w : World} {c : Nat} {xs : List Int} (h : Ar w c 0 .u8 (blk xs)) (ha : AllB xs) : KeyV w (.pointer (some ⟨c, 0, none⟩)) (blk xs) := Or.inr ⟨c, rfl, h, blk_len xs, blk_all xs ha⟩

set_option maxHeartbeats 2000000 in
theorem kfits_any (w : World) (kv : Value) (bl : List Int) (tv : Value) (gs : List Int) (v : Value) (ls : List (List Int)) (hk : KeyV w kv bl) (ht : Byt w tv gs) (hb : Bts w v ls) (hm : ls.flatten.length ≤ 100000) :
    Calls Tryd.prog 28 #[kv, tv, v] w fun e w' => e = .returned (.bool (decide (gs = tagB bl ls.flatten))) ∧ Below w.heap.size w w' := by
  have HT : Hid (Byt w tv gs) := ht
  have HKT : Hid (Calls Tryd.prog 20 #[kv, v] w fun e w' => ∃ v', e = .returned v' ∧ Byt w' v' (tagB bl ls.flatten) ∧ Below w.heap.size w w') := ktag_any w kv bl v ls hk hb hm
  generalize tagB bl ls.flatten = T at *
  clear hk hb ht hm
  go_enter Tryd.func28, Tryd.ntmps28
  go_wp2_with (first
    | (go_at_call 20; refine HKT.out.mono ?_; rintro e w1 ⟨v1, rfl, hv1, b1⟩; have HV1 : Hid (Byt w1 v1 T) := hv1; have HT1 : Hid (Byt w1 tv gs) := HT.out.below b1; clear hv1)
    | (go_at_call 47; refine (oSame_any _ _ gs T _ HT1.out HV1.out).mono ?_; rintro e w2 ⟨rfl, n2, rfl⟩))
  go_ret
  exact ⟨rfl, below_drewN b1 n2⟩
end Go.Proofs.YtbkaecjkgjkheaaDoor.mc

/- Lists of bytes as rows of bits: a bit more, a bit less, all of two. No claim of its own. -/
namespace Go.Proofs.YtbkaecjkgjkheaaDoor.fa
open Go.RowKit
set_option maxRecDepth 20000

/-- a bit as a number -/
def bn (b : Bool) : Nat := if b then 1 else 0
/-- the byte of the bits 8 j .. 8 j + 7 -/
def wt (c : Nat → Bool) (j : Nat) : Nat := bn (c (8 * j)) + 2 * bn (c (8 * j + 1)) + 4 * bn (c (8 * j + 2)) + 8 * bn (c (8 * j + 3)) + 16 * bn (c (8 * j + 4)) + 32 * bn (c (8 * j + 5)) + 64 * bn (c (8 * j + 6)) + 128 * bn (c (8 * j + 7))
theorem bn_le (b : Bool) : bn b ≤ 1 := by cases b <;> simp [bn]
theorem wt_lt (c : Nat → Bool) (j : Nat) : wt c j < 256 := by
  unfold wt
  have := bn_le (c (8 * j)); have := bn_le (c (8 * j + 1)); have := bn_le (c (8 * j + 2)); have := bn_le (c (8 * j + 3))
  have := bn_le (c (8 * j + 4)); have := bn_le (c (8 * j + 5)); have := bn_le (c (8 * j + 6)); have := bn_le (c (8 * j + 7))
  omega
theorem wt_congr {c d : Nat → Bool} {j : Nat} (h : ∀ t, t < 8 → c (8 * j + t) = d (8 * j + t)) : wt c j = wt d j := by
  unfold wt
  have h0 := h 0 (by omega); have h1 := h 1 (by omega); have h2 := h 2 (by omega); have h3 := h 3 (by omega)
  have h4 := h 4 (by omega); have h5 := h 5 (by omega); have h6 := h 6 (by omega); have h7 := h 7 (by omega)
  rw [Nat.add_zero] at h0
  rw [h0, h1, h2, h3, h4, h5, h6, h7]
/-- bit t of a byte -/
def bit (b t : Nat) : Bool := decide (b / 2 ^ t % 2 = 1)
theorem bn_bit (b t : Nat) : bn (bit b t) = b / 2 ^ t % 2 := by
  unfold bit bn
  by_cases h : b / 2 ^ t % 2 = 1
  · simp [h]
  · simp [h]; omega
theorem bits_sum : ∀ b, b < 256 → b / 2 ^ 0 % 2 + 2 * (b / 2 ^ 1 % 2) + 4 * (b / 2 ^ 2 % 2) + 8 * (b / 2 ^ 3 % 2) + 16 * (b / 2 ^ 4 % 2) + 32 * (b / 2 ^ 5 % 2) + 64 * (b / 2 ^ 6 % 2) + 128 * (b / 2 ^ 7 % 2) = b := by decide +kernel
/-- a byte is the one of its bits -/
theorem byte_bits (b : Nat) (h : b < 256) (c : Nat → Bool) (j : Nat) (hc : ∀ t, t < 8 → c (8 * j + t) = bit b t) : wt c j = b := by
  have e : ∀ t, t < 8 → bn (c (8 * j + t)) = b / 2 ^ t % 2 := fun t ht => by rw [hc t ht, bn_bit]
  have h0 := e 0 (by omega); have h1 := e 1 (by omega); have h2 := e 2 (by omega); have h3 := e 3 (by omega)
  have h4 := e 4 (by omega); have h5 := e 5 (by omega); have h6 := e 6 (by omega); have h7 := e 7 (by omega)
  rw [Nat.add_zero] at h0
  unfold wt
  rw [h0, h1, h2, h3, h4, h5, h6, h7]
  exact bits_sum b h
/-- the bits of a byte are those it was made of -/
theorem bit_wt (c : Nat → Bool) (j t : Nat) (ht : t < 8) : bit (wt c j) t = c (8 * j + t) := by
  have b0 := bn_le (c (8 * j)); have b1 := bn_le (c (8 * j + 1)); have b2 := bn_le (c (8 * j + 2)); have b3 := bn_le (c (8 * j + 3))
  have b4 := bn_le (c (8 * j + 4)); have b5 := bn_le (c (8 * j + 5)); have b6 := bn_le (c (8 * j + 6)); have b7 := bn_le (c (8 * j + 7))
  have key : bn (bit (wt c j) t) = bn (c (8 * j + t)) := by
    rw [bn_bit]
    unfold wt
    have : t = 0 ∨ t = 1 ∨ t = 2 ∨ t = 3 ∨ t = 4 ∨ t = 5 ∨ t = 6 ∨ t = 7 := by omega
    rcases this with rfl | rfl | rfl | rfl | rfl | rfl | rfl | rfl <;> simp only [Nat.reducePow, Nat.add_zero] <;> omega
  revert key
  cases bit (wt c j) t <;> cases c (8 * j + t) <;> simp [bn]

/-- n bytes of bits -/
def ofb (n : Nat) (c : Nat → Bool) : List Int := (List.range n).map fun j => ((wt c j : Nat) : Int)
theorem ofb_len (n : Nat) (c : Nat → Bool) : (ofb n c).length = n := by simp [ofb]
theorem ofb_gb (n : Nat) (c : Nat → Bool) (j : Nat) (h : j < n) : gb (ofb n c) j = ((wt c j : Nat) : Int) := by simp [gb, List.getD, ofb, h]
theorem ofb_all (n : Nat) (c : Nat → Bool) : AllB (ofb n c) := allB_mem fun x hx => by
  obtain ⟨j, _, rfl⟩ := List.mem_map.1 hx
  have := wt_lt c j
  omega
/-- bit i of bytes -/
def hs (xs : List Int) (i : Nat) : Bool := bit (gb xs (i / 8)).toNat (i % 8)
theorem hs_at (xs : List Int) (j t : Nat) (ht : t < 8) : hs xs (8 * j + t) = bit (gb xs j).toNat t := by
  unfold hs
  rw [show (8 * j + t) / 8 = j by omega, show (8 * j + t) % 8 = t by omega]
theorem hs_ofb (n : Nat) (c : Nat → Bool) (i : Nat) (h : i < 8 * n) : hs (ofb n c) i = c i := by
  unfold hs
  rw [ofb_gb n c (i / 8) (by omega), Int.toNat_natCast, bit_wt c (i / 8) (i % 8) (by omega), show 8 * (i / 8) + i % 8 = i by omega]
/-- bytes are those of their bits -/
theorem ofb_hs (xs : List Int) (h : AllB xs) (c : Nat → Bool) (hc : ∀ i, i < 8 * xs.length → c i = hs xs i) : ofb xs.length c = xs := by
  refine ext_gb (ofb_len _ _) fun j hj => ?_
  rw [ofb_len] at hj
  have hb := h j
  rw [ofb_gb _ _ j hj, byte_bits (gb xs j).toNat (by omega) c j fun t ht => by rw [hc _ (by omega), hs_at xs j t ht]]
  omega
theorem ofb_congr (n : Nat) {c d : Nat → Bool} (h : ∀ i, i < 8 * n → c i = d i) : ofb n c = ofb n d := by
  refine ext_gb (by rw [ofb_len, ofb_len]) fun j hj => ?_
  rw [ofb_len] at hj
  rw [ofb_gb n c j hj, ofb_gb n d j hj, wt_congr fun t ht => h _ (by omega)]
theorem ofb_inj (n : Nat) {c d : Nat → Bool} (h : ofb n c = ofb n d) (i : Nat) (hi : i < 8 * n) : c i = d i := by rw [← hs_ofb n c i hi, h, hs_ofb n d i hi]

/-! ### one bit -/
theorem bn_up {c d : Nat → Bool} {i k : Nat} (hk : c k = false) (hd : d k = true) (h : ∀ i, i ≠ k → d i = c i) : bn (d i) = bn (c i) + if i = k then 1 else 0 := by
  by_cases e : i = k
  · subst e; rw [hk, hd, if_pos rfl]; rfl
  · rw [h i e, if_neg e]; rfl
theorem wt_up {c d : Nat → Bool} {k : Nat} (hk : c k = false) (hd : d k = true) (h : ∀ i, i ≠ k → d i = c i) (j : Nat) : wt d j = wt c j + if j = k / 8 then 2 ^ (k % 8) else 0 := by
  unfold wt
  rw [bn_up (i := 8 * j) hk hd h, bn_up (i := 8 * j + 1) hk hd h, bn_up (i := 8 * j + 2) hk hd h, bn_up (i := 8 * j + 3) hk hd h, bn_up (i := 8 * j + 4) hk hd h, bn_up (i := 8 * j + 5) hk hd h, bn_up (i := 8 * j + 6) hk hd h, bn_up (i := 8 * j + 7) hk hd h]
  by_cases e : j = k / 8
  · rw [if_pos e]
    have : k % 8 = 0 ∨ k % 8 = 1 ∨ k % 8 = 2 ∨ k % 8 = 3 ∨ k % 8 = 4 ∨ k % 8 = 5 ∨ k % 8 = 6 ∨ k % 8 = 7 := by omega
    rcases this with q | q | q | q | q | q | q | q <;> rw [q] <;> simp only [Nat.reducePow]
    · rw [if_pos (by omega), if_neg (by omega), if_neg (by omega), if_neg (by omega), if_neg (by omega), if_neg (by omega), if_neg (by omega), if_neg (by omega)]; omega
    · rw [if_neg (by omega), if_pos (by omega), if_neg (by omega), if_neg (by omega), if_neg (by omega), if_neg (by omega), if_neg (by omega), if_neg (by omega)]; omega
    · rw [if_neg (by omega), if_neg (by omega), if_pos (by omega), if_neg (by omega), if_neg (by omega), if_neg (by omega), if_neg (by omega), if_neg (by omega)]; omega
    · rw [if_neg (by omega), if_neg (by omega), if_neg (by omega), if_pos (by omega), if_neg (by omega), if_neg (by omega), if_neg (by omega), if_neg (by omega)]; omega
    · rw [if_neg (by omega), if_neg (by omega), if_neg (by omega), if_neg (by omega), if_pos (by omega), if_neg (by omega), if_neg (by omega), if_neg (by omega)]; omega
    · rw [if_neg (by omega), if_neg (by omega), if_neg (by omega), if_neg (by omega), if_neg (by omega), if_pos (by omega), if_neg (by omega), if_neg (by omega)]; omega
    · rw [if_neg (by omega), if_neg (by omega), if_neg (by omega), if_neg (by omega), if_neg (by omega), if_neg (by omega), if_pos (by omega), if_neg (by omega)]; omega
    · rw [if_neg (by omega), if_neg (by omega), if_neg (by omega), if_neg (by omega), if_neg (by omega), if_neg (by omega), if_neg (by omega), if_pos (by omega)]; omega
  · rw [if_neg e, if_neg (by omega), if_neg (by omega), if_neg (by omega), if_neg (by omega), if_neg (by omega), if_neg (by omega), if_neg (by omega), if_neg (by omega)]
    omega
/-- a bit more: d is c with bit k besides -/
theorem ofb_up (n : Nat) {c d : Nat → Bool} {k : Nat} (hk : c k = false) (hd : d k = true) (h : ∀ i, i ≠ k → d i = c i) : (ofb n c).set (k / 8) (gb (ofb n c) (k / 8) + ((2 ^ (k % 8) : Nat) : Int)) = ofb n d := by
  refine ext_gb (by rw [List.length_set, ofb_len, ofb_len]) fun j hj => ?_
  rw [List.length_set, ofb_len] at hj
  rw [ofb_gb n d j hj, wt_up hk hd h j]
  by_cases e : j = k / 8
  · subst e
    rw [if_pos rfl, ofb_gb n c _ hj]
    simp [gb, List.getD, ofb_len, hj]
  · rw [if_neg e, Nat.add_zero, ← ofb_gb n c j hj]
    simp [gb, List.getD, Ne.symm e]
/-- a bit less: c is d without bit k -/
theorem ofb_down (n : Nat) {c d : Nat → Bool} {k : Nat} (hn : k < 8 * n) (hk : c k = false) (hd : d k = true) (h : ∀ i, i ≠ k → d i = c i) : (ofb n d).set (k / 8) (gb (ofb n d) (k / 8) - ((2 ^ (k % 8) : Nat) : Int)) = ofb n c ∧ ((2 ^ (k % 8) : Nat) : Int) ≤ gb (ofb n d) (k / 8) := by
  have W := wt_up hk hd h
  generalize 2 ^ (k % 8) = q at *
  refine ⟨?_, ?_⟩
  · refine ext_gb (by rw [List.length_set, ofb_len, ofb_len]) fun j hj => ?_
    rw [List.length_set, ofb_len] at hj
    rw [ofb_gb n c j hj]
    have w := W j
    by_cases e : j = k / 8
    · subst e
      rw [if_pos rfl] at w
      rw [ofb_gb n d _ hj]
      simp [gb, List.getD, ofb_len, hj]
      omega
    · rw [if_neg e, Nat.add_zero] at w
      rw [← w, ← ofb_gb n d j hj]
      simp [gb, List.getD, Ne.symm e]
  · rw [ofb_gb n d _ (by omega)]
    have w := W (k / 8)
    rw [if_pos rfl] at w
    omega

/-! ### all of two -/
theorem bit_test (b t : Nat) : bit b t = b.testBit t := by rw [Nat.testBit_eq_decide_div_mod_eq]; rfl
theorem and_wt (a b : Nat) (ha : a < 256) (c : Nat → Bool) (j : Nat) (hc : ∀ t, t < 8 → c (8 * j + t) = (bit a t && bit b t)) : a &&& b = wt c j := by
  refine (byte_bits (a &&& b) (Nat.lt_of_le_of_lt Nat.and_le_left ha) c j fun t ht => ?_).symm
  rw [hc t ht, bit_test, bit_test, bit_test, Nat.testBit_and]
/-- the bytes of 'a & b' -/
theorem ands_ofb (xs ys : List Int) (hx : AllB xs) (j : Nat) : (((gb xs j).toNat &&& (gb ys j).toNat : Nat) : Int) = ((wt (fun i => hs xs i && hs ys i) j : Nat) : Int) := by
  have hb := hx j
  rw [and_wt (gb xs j).toNat (gb ys j).toNat (by omega) (fun i => hs xs i && hs ys i) j fun t ht => by rw [hs_at xs j t ht, hs_at ys j t ht]]

/-! ### what a mask says -/
/-- bit i of a mask that is bytes again and again -/
def mk (m : List Int) (i : Nat) : Bool := m.length == 0 || bit (gb m (i / 8 % m.length)).toNat (i % 8)
/-- which bits a program was to clear -/
def due (was tz : List Int) (i : Nat) : Bool := hs was i && !hs tz i
/-- which bits are there behind a program that is torn -/
def torn (was tz m : List Int) (i : Nat) : Bool := hs was i && !(due was tz i && mk m i)
/-- i is the last of the first n bits that was to be cleared -/
def isLast (was tz : List Int) (n i : Nat) : Prop := i < n ∧ due was tz i = true ∧ ∀ k, k < n → i < k → due was tz k = false
/-- the last of the first n bits that was to be cleared, and one; nought: there is none -/
def lst (was tz : List Int) : Nat → Nat
  | 0 => 0
  | n + 1 => if due was tz n then n + 1 else lst was tz n
theorem lst_le (was tz : List Int) (n : Nat) : lst was tz n ≤ n := by
  induction n with
  | zero => exact Nat.le_refl _
  | succ n ih =>
    unfold lst
    split <;> omega
theorem lst_due (was tz : List Int) (n : Nat) (h : 0 < lst was tz n) : due was tz (lst was tz n - 1) = true := by
  induction n with
  | zero => simp [lst] at h
  | succ n ih =>
    unfold lst at h ⊢
    by_cases e : due was tz n = true
    · rw [if_pos e, Nat.add_sub_cancel]; exact e
    · rw [if_neg e] at h ⊢
      exact ih h
theorem lst_past (was tz : List Int) (n k : Nat) (hk : k < n) (h : lst was tz n ≤ k) : due was tz k = false := by
  induction n with
  | zero => omega
  | succ n ih =>
    unfold lst at h
    by_cases e : due was tz n = true
    · rw [if_pos e] at h; omega
    · rw [if_neg e] at h
      by_cases q : k = n
      · subst q; simpa using e
      · exact ih (by omega) h
/-- which bits are there behind a program that fails -/
def failed (was tz m : List Int) (n i : Nat) : Bool := hs was i && !(due was tz i && mk m i && !(i + 1 == lst was tz n))
/-- programs only clear -/
theorem torn_sub (was tz m : List Int) (i : Nat) : (torn was tz m i && hs was i) = torn was tz m i := by unfold torn; cases hs was i <;> simp
theorem failed_sub (was tz m : List Int) (n i : Nat) : (failed was tz m n i && hs was i) = failed was tz m n i := by unfold failed; cases hs was i <;> simp
/-- with an empty mask all is done -/
theorem torn_whole (was tz : List Int) (i : Nat) : torn was tz [] i = (hs was i && hs tz i) := by unfold torn due mk; cases hs was i <;> cases hs tz i <;> simp
/-- one that fails does all only where there is nothing to do -/
theorem failed_whole (was tz m : List Int) (n : Nat) : (∀ i, i < n → failed was tz m n i = (hs was i && hs tz i)) ↔ ∀ i, i < n → hs was i = (hs was i && hs tz i) := by
  constructor
  · intro h
    have hz : lst was tz n = 0 := by
      rcases Nat.eq_zero_or_pos (lst was tz n) with q | q
      · exact q
      · have hd := lst_due was tz n q
        have hle := lst_le was tz n
        have := h (lst was tz n - 1) (by omega)
        unfold failed at this
        rw [show lst was tz n - 1 + 1 = lst was tz n by omega] at this
        unfold due at hd this
        revert hd this
        cases hs was (lst was tz n - 1) <;> cases hs tz (lst was tz n - 1) <;> simp
    intro i hi
    have := lst_past was tz n i hi (by omega)
    unfold due at this
    revert this
    cases hs was i <;> cases hs tz i <;> simp
  · intro h i hi
    have := h i hi
    unfold failed due
    revert this
    cases hs was i <;> cases hs tz i <;> simp
/-- which bits are there behind an erase that is torn -/
def erased (was m : List Int) (i : Nat) : Bool := hs was i || mk m i
theorem erased_sup (was m : List Int) (i : Nat) : (erased was m i && hs was i) = hs was i := by unfold erased; cases hs was i <;> simp
theorem erased_whole (was : List Int) (i : Nat) : erased was [] i = true := by unfold erased mk; cases hs was i <;> simp
theorem ofb_full (n : Nat) (c : Nat → Bool) (h : ∀ i, i < 8 * n → c i = true) : ofb n c = List.replicate n 255 := by
  refine ext_gb (by rw [ofb_len, List.length_replicate]) fun j hj => ?_
  rw [ofb_len] at hj
  rw [ofb_gb n c j hj]
  have e : wt c j = 255 := by
    rw [wt_congr (d := fun _ => true) fun t ht => h _ (by omega)]
    rfl
  rw [e]
  simp [gb, List.getD, hj]
end Go.Proofs.YtbkaecjkgjkheaaDoor.fa

/- What a mask says of a bit: fault's closure over a mask and Bit, and the reference's power, Has and Bit. No claim of its own. -/
namespace Go.Proofs.YtbkaecjkgjkheaaDoor.fa
open Go.RowKit
set_option maxRecDepth 20000

theorem byt_drawn {w : World} {v : Value} {xs : List Int} (h : Byt w v xs) (m : Nat) : Byt (w.drewN m) v xs := h
theorem below_drawn {B : Nat} {w w' : World} (h : Below B w w') (n : Nat) : Below B w (w'.drewN n) := ⟨h.os, h.tape, h.output, h.size, h.block⟩

/-- a variable: one value has a place of its own at c -/
def Var (w : World) (c : Nat) (v : Value) : Prop := w.cell? ⟨c, 0, none⟩ = some v ∧ w.frozen? ⟨c, 0, none⟩ = false
theorem Var.new (w : World) (v : Value) (t : TypeId) : Var (w.alloc (.cells #[v] t)) w.heap.size v := ⟨World.cell?_alloc_at _ _ _ _ rfl, World.frozen?_alloc_at _ _ _ _ rfl⟩
theorem Var.lt {w : World} {c : Nat} {v : Value} (h : Var w c v) : c < w.heap.size := World.block_lt_of_cell? w _ h.1
theorem Var.below {w w' : World} {c B : Nat} {v : Value} (h : Var w c v) (hb : Below B w w') (hc : c < B) : Var w' c v := ⟨by rw [hb.cell hc]; exact h.1, by rw [hb.frozen hc]; exact h.2⟩
theorem Var.set {w : World} {c : Nat} {v : Value} (h : Var w c v) (u : Value) : Var (w.setCell ⟨c, 0, none⟩ u) c u := ⟨World.cell?_setCell_same _ _ _ h.1, by rw [World.frozen?_setCell]; exact h.2⟩
theorem byt_form {w : World} {v : Value} {xs : List Int} (h : Byt w v xs) : ∃ ao cap, v = .slice ao xs.length cap := by
  obtain ⟨ao, cap, rfl, _⟩ := h
  exact ⟨ao, cap, rfl⟩
/-- bytes last where a cell is written that is no byte -/
theorem byt_other {w : World} {v u old : Value} {xs : List Int} {p : Addr} (h : Byt w v xs) (hc : w.cell? p = some old) (ho : ∀ x, old ≠ .int .u8 x) : Byt (w.setCell p u) v xs := by
  obtain ⟨ao, cap, rfl, h1, h2, h3, h4, h5⟩ := h
  refine ⟨ao, cap, rfl, h1, h2, h3, h4, fun hp => ?_⟩
  obtain ⟨b, off, rfl, hb⟩ := h5 hp
  refine ⟨b, off, rfl, fun t ht => ?_⟩
  rw [World.cell?_setCell_other _ _ _ _ (by intro e; rw [e] at hc; rw [hb t ht] at hc; injection hc with hc; exact ho _ hc.symm)]
  exact hb t ht

/-- the bytes of a mask; of an empty one a byte of ones -/
def ms (m : List Int) : List Int := if m.length = 0 then [255] else m
theorem ms_pos (m : List Int) : 0 < (ms m).length := by
  unfold ms
  split
  · decide
  · omega
theorem ms_all {m : List Int} (h : AllB m) : AllB (ms m) := by
  unfold ms
  split
  · exact allB_mem fun x hx => by simp at hx; omega
  · exact h
/-- what a mask says of byte i -/
def mb (m : List Int) (i : Nat) : Int := gb (ms m) (i % (ms m).length)
theorem mb_bd {m : List Int} (h : AllB m) (i : Nat) : 0 ≤ mb m i ∧ mb m i ≤ 255 := ms_all h _
theorem bit255 : ∀ t, t < 8 → bit 255 t = true := by decide
theorem mb_mk (m : List Int) (i : Nat) : mk m i = bit (mb m (i / 8)).toNat (i % 8) := by
  unfold mk mb ms
  by_cases h : m.length = 0
  · rw [if_pos h, h, show [(255 : Int)].length = 1 from rfl, Nat.mod_one]
    show (true || _) = bit 255 (i % 8)
    rw [bit255 _ (by omega), Bool.true_or]
  · rw [if_neg h, show (m.length == 0) = false by simpa using h, Bool.false_or]

/-- the variable at c tells of the mask m -/
def Say (w : World) (c : Nat) (m : List Int) : Prop := ∃ sv, w.cell? ⟨c, 0, none⟩ = some sv ∧ Byt w sv (ms m)
theorem Say.lt {w : World} {c : Nat} {m : List Int} (h : Say w c m) : c < w.heap.size := by
  obtain ⟨sv, h1, _⟩ := h
  exact World.block_lt_of_cell? w _ h1
theorem Say.below {w w' : World} {c : Nat} {m : List Int} (h : Say w c m) (hb : Below w.heap.size w w') : Say w' c m := by
  have hl := h.lt
  obtain ⟨sv, h1, h2⟩ := h
  exact ⟨sv, by rw [hb.cell hl]; exact h1, h2.below hb⟩
end Go.Proofs.YtbkaecjkgjkheaaDoor.fa

/- Rows of bytes of the call's own, with room behind: read, written, appended to. No claim of its own. -/
namespace Go.Proofs.YtbkaecjkgjkheaaDoor.fa
open Go.RowKit
set_option maxRecDepth 20000

/-- the row g owns n bytes, and has room for cap -/
def OwnC (B : Nat) (w : World) (g n cap : Nat) (xs : List Int) : Prop := xs.length = n ∧ B ≤ g ∧ w.ownsRow B 5 1 (.slice (some ⟨g, 0, none⟩) n cap) n (xs.map (Value.int .u8))
theorem OwnC.cell {B : Nat} {w : World} {g n cap : Nat} {xs : List Int} (h : OwnC B w g n cap xs) {k : Nat} (hk : k < n) : w.cell? ⟨g, k, none⟩ = some (.int .u8 (gb xs k)) := by
  rw [h.2.2.cellAt k (by omega)]
  have := h.1
  simp [gb, List.getD, show k < xs.length by omega]
theorem OwnC.free {B : Nat} {w : World} {g n cap : Nat} {xs : List Int} (h : OwnC B w g n cap xs) (k : Nat) : w.frozen? ⟨g, k, none⟩ = false := h.2.2.frozenAt k
theorem OwnC.set {B : Nat} {w : World} {g n cap : Nat} {xs : List Int} (h : OwnC B w g n cap xs) (k : Nat) (x : Int) : OwnC B (w.setCell ⟨g, k, none⟩ (.int .u8 x)) g n cap (xs.set k x) :=
  ⟨by simpa using h.1, h.2.1, by have := (h.2.2.stored k (.int .u8 x)).1; rwa [← List.map_set] at this⟩
theorem OwnC.drewN {B : Nat} {w : World} {g n cap : Nat} {xs : List Int} (h : OwnC B w g n cap xs) (m : Nat) : OwnC B (w.drewN m) g n cap xs := h
theorem OwnC.own {B : Nat} {w : World} {g n cap : Nat} {xs : List Int} (h : OwnC B w g n cap xs) : Own B w (.slice (some ⟨g, 0, none⟩) n cap) xs := by
  have h1 := h.1
  subst h1
  exact h.2.2
theorem own_row {B : Nat} {w : World} {v : Value} {xs : List Int} (h : Own B w v xs) (hp : 0 < xs.length) : ∃ g cap, v = .slice (some ⟨g, 0, none⟩) xs.length cap ∧ OwnC B w g xs.length cap xs := by
  rcases h.2 with ⟨_, hn⟩ | ⟨g, cap, cur, rfl, hg, hr⟩
  · omega
  · exact ⟨g, cap, rfl, rfl, hg, h⟩
theorem own_drewN {B : Nat} {w : World} {v : Value} {xs : List Int} (h : Own B w v xs) (m : Nat) : Own B (w.drewN m) v xs := h

/-- 'append(s, x...)', s of the call's own -/
theorem pushs_law {ops : Array Oper} {rest : List Oper} {o : Oper} {a : Act} {Q : Exit → Act → World → Prop} (w : World) (hg : o.guard = none) (s x : Operand) (hop : o.op = .call { callee := .builtin .append, args := #[s, x], argTypes := #[22, 22] })
    (B : Nat) (hB : B ≤ w.heap.size) (v vy : Value) (xs ys : List Int) (hs : a.eval s = v) (hx : a.eval x = vy) (hown : Own B w v xs) (hy : Byt w vy ys) (hm : xs.length + ys.length ≤ 140737488355328)
    (hK : ∀ v' w', Own B w' v' (xs ++ ys) → Below B w w' → wpList Tryd.prog ops Q rest (a.put o.dst v') w') :
    wpList Tryd.prog ops Q (o :: rest) a w := by
  obtain ⟨i0, hi, hz0, hz1, hz2⟩ := info_parts info_u8
  obtain ⟨ao, cap, rfl, h1, h2, h3, h4, h5⟩ := hy
  cases ao with
  | none =>
    have hc := h4 rfl
    subst hc
    have : ys = [] := List.eq_nil_of_length_eq_zero (by omega)
    subst this
    refine wpList_append_own_none hg s x 22 hop B 5 i0 1 Tryd.underlying22 hi v xs.length _ hs hown hx (hK v w ?_ (Below.refl _ _))
    rwa [List.append_nil]
  | some ad =>
    refine wpList_append_own _ hg s x 22 hop B 5 i0 (.int .u8 0) 1 1 Tryd.underlying22 hi hz0 hz1 hz2 rfl (by decide) v xs.length _ hs hown ad ys.length cap (ys.map (Value.int .u8)) hx (by simp) ?_ ?_ (by simp only [maxLen]; omega) (by omega) hB fun v' w' h1 h2 _ => ?_
    · intro j u hj
      have hjl : j < ys.length := by have := (List.getElem?_eq_some_iff.1 hj).1; simpa using this
      obtain ⟨b, off, e, hc⟩ := h5 (by omega)
      cases e
      rw [Addr.add_mid, hc j hjl, ← hj]
      simp [gb, List.getD, hjl]
    · intro u hu
      simp only [List.mem_map] at hu
      obtain ⟨y, _, rfl⟩ := hu
      rfl
    · refine hK v' w' ?_ ?_
      · show w'.ownsRow B 5 1 v' (xs ++ ys).length ((xs ++ ys).map (Value.int .u8))
        simpa using h1
      · exact (Below.refl B w).grown h2 hB fun k hk => (World.ownsRow.lt hown k hk).1
end Go.Proofs.YtbkaecjkgjkheaaDoor.fa

/- Structs of any cells in a place of their own: read, written. No claim of its own. -/
namespace Go.Proofs.YtbkaecjkgjkheaaDoor.he
open Go.RowKit Go.Proofs.YtbkaecjkgjkheaaDoor.fa
set_option maxRecDepth 20000

/-- a variable at c that holds the cells cs -/
def Vr (w : World) (c : Nat) (cs : List Value) : Prop := w.rangeAt c 0 cs ∧ w.there c 0 cs.length
theorem range_heap {w w' : World} {b p : Nat} {cs : List Value} (h : w.rangeAt b p cs) (e : w'.heap[b]? = w.heap[b]?) : w'.rangeAt b p cs := fun j v hv => by
  rw [World.cell?_of_block (w := w) (w' := w') (a := ⟨b, p + j, none⟩) e]; exact h j v hv
theorem there_heap {w w' : World} {b p n : Nat} (h : w.there b p n) (e : w'.heap[b]? = w.heap[b]?) : w'.there b p n := fun j hj => by
  rw [World.cell?_of_block (w := w) (w' := w') (a := ⟨b, p + j, none⟩) e, World.frozen?_of_block (w := w) (w' := w') (a := ⟨b, p + j, none⟩) e]
  exact h j hj
theorem range_lt {w : World} {b p : Nat} {cs : List Value} (h : w.rangeAt b p cs) (hp : 0 < cs.length) : b < w.heap.size := World.block_lt_of_cell? w _ (h 0 _ (List.getElem?_eq_getElem hp))
theorem Vr.heap {w w' : World} {c : Nat} {cs : List Value} (h : Vr w c cs) (e : w'.heap[c]? = w.heap[c]?) : Vr w' c cs := ⟨range_heap h.1 e, there_heap h.2 e⟩
theorem Vr.below {w w' : World} {c B : Nat} {cs : List Value} (h : Vr w c cs) (hb : Below B w w') (hc : c < B) : Vr w' c cs := h.heap (hb.block c hc)
theorem Vr.drewN {w : World} {c : Nat} {cs : List Value} (h : Vr w c cs) (n : Nat) : Vr (w.drewN n) c cs := h.heap rfl
theorem Vr.other {w : World} {c b o : Nat} {cs : List Value} (h : Vr w c cs) (u : Value) (hp : c ≠ b) : Vr (w.setCell ⟨b, o, none⟩ u) c cs := h.heap (Below.heap_setCell w ⟨b, o, none⟩ u c hp)
theorem Vr.cell {w : World} {c : Nat} {cs : List Value} (h : Vr w c cs) (j : Nat) (v : Value) (hv : cs[j]? = some v) : w.cell? ⟨c, j, none⟩ = some v := by
  have := h.1 j v hv
  rwa [Nat.zero_add] at this
theorem Vr.free {w : World} {c : Nat} {cs : List Value} (h : Vr w c cs) (j : Nat) (hj : j < cs.length) : w.frozen? ⟨c, j, none⟩ = false := by
  have := (h.2 j hj).2
  rwa [Nat.zero_add] at this
theorem Vr.set {w : World} {c : Nat} {cs : List Value} (h : Vr w c cs) (j : Nat) (hj : j < cs.length) (u : Value) : Vr (w.setCell ⟨c, j, none⟩ u) c (cs.set j u) := by
  have hc := h.cell j _ (List.getElem?_eq_getElem hj)
  refine ⟨fun i v hv => ?_, fun i hi => ?_⟩
  · rw [Nat.zero_add]
    rw [List.getElem?_set] at hv
    by_cases e : j = i
    · subst e
      rw [if_pos rfl, if_pos hj] at hv
      cases hv
      exact World.cell?_setCell_same _ _ _ hc
    · rw [if_neg e] at hv
      rw [World.cell?_setCell_other _ _ _ _ (by intro q; injection q with _ q2; omega)]
      exact h.cell i v hv
  · rw [List.length_set] at hi
    rw [Nat.zero_add]
    refine ⟨?_, by rw [World.frozen?_setCell]; exact h.free i hi⟩
    by_cases e : j = i
    · subst e
      rw [World.cell?_setCell_same _ _ _ hc]; rfl
    · rw [World.cell?_setCell_other _ _ _ _ (by intro q; injection q with _ q2; omega), h.cell i _ (List.getElem?_eq_getElem hi)]; rfl
theorem Vr.new (w : World) (t : TypeId) (cs : List Value) : Vr (w.alloc (.cells cs.toArray t)) w.heap.size cs := by
  have e := fun j => cell_of_row (w.alloc (.cells cs.toArray t)) w.heap.size j _ t (0, 0) (heap_alloc_last w _)
  refine ⟨fun j v hv => by rw [Nat.zero_add, e]; simpa using hv, fun j hj => ⟨?_, World.frozen?_alloc_at _ _ _ _ rfl⟩⟩
  rw [Nat.zero_add, e]
  simp [hj]

/-- a type of structs (or of arrays) of n cells -/
def Rowy (t : TypeId) (n : Nat) : Prop := (∃ d, Tryd.prog.underlying t = some d ∧ d.isRow = true) ∧ (Tryd.prog.info? t).map (·.size) = some n
theorem run_loadC {w : World} {b p : Nat} {t : TypeId} {cs : List Value} (ht : Rowy t cs.length) (h : w.rangeAt b p cs) : (loadVar t ⟨b, p, none⟩).run Tryd.prog w = .ok (.agg cs.toArray) w := by
  obtain ⟨⟨d, hu, hd⟩, hs⟩ := ht
  exact run_loadVar_mid (P := Tryd.prog) w b p t _ _ h hu hd hs
theorem load_cells {w : World} {b p : Nat} {t : TypeId} {cs : List Value} (ht : Rowy t cs.length) (h : w.rangeAt b p cs) : (Instr.loadAt t (.pointer (some ⟨b, p, none⟩))).run Tryd.prog w = .ok (.agg cs.toArray) w := by
  simp only [Instr.loadAt, Instr.sureAddr, Sem.run_bind, Sem.run_pure, Result.andThen_ok, run_loadC ht h]
theorem results_c {fn : Func} {p : Tmp} {t : TypeId} (h : fn.results = #[.cell p t]) (tmps : Array Value) (w : World) (b : Nat) (cs : List Value) (ht : Rowy t cs.length) (hp : tmps.getD p undef = .pointer (some ⟨b, 0, none⟩)) (ha : w.rangeAt b 0 cs) : (results fn tmps).run Tryd.prog w = .ok (.agg cs.toArray) w := by
  have hp' : tmps[p]?.getD undef = .pointer (some ⟨b, 0, none⟩) := by simpa using hp
  simp [results, h, hp', asAddr, run_loadC ht ha]
theorem results_cv {fn : Func} {p q : Tmp} {t : TypeId} (h : fn.results = #[.cell p t, .tmp q]) (tmps : Array Value) (w : World) (b : Nat) (cs : List Value) (v : Value) (ht : Rowy t cs.length) (hp : tmps.getD p undef = .pointer (some ⟨b, 0, none⟩)) (hq : tmps.getD q undef = v) (ha : w.rangeAt b 0 cs) : (results fn tmps).run Tryd.prog w = .ok (.tuple #[.agg cs.toArray, v]) w := by
  have hp' : tmps[p]?.getD undef = .pointer (some ⟨b, 0, none⟩) := by simpa using hp
  have hq' : tmps[q]?.getD undef = v := by simpa using hq
  simp [results, h, hp', hq', asAddr, run_loadC ht ha]

section
variable {ops : Array Oper} {rest : List Oper} {a : Act} {Q : Exit → Act → World → Prop}
/-- a struct gets a place -/
theorem box_lawC {d : Option Tmp} {x : Operand} {t ty : TypeId} {pos : String} {af : Array Edge} (w : World) (cs : List Value) (hx : a.eval x = .agg cs.toArray)
    (hK : ∀ w', Vr w' w.heap.size cs → Below w.heap.size w w' → w.heap.size < w'.heap.size → wpList Tryd.prog ops Q rest (a.put d (.pointer (some ⟨w.heap.size, 0, none⟩))) w') :
    wpList Tryd.prog ops Q (⟨d, Op.box t x, ty, pos, af, none⟩ :: rest) a w := by
  refine wpList_plain rfl fun K hK' => ?_
  unfold Oper.wp
  simp [execOp, hx, Instr.box, newVar, newRow, Value.cells, Result.andThen]
  exact hK' _ _ (hK _ (Vr.new w t cs) ((Below.refl _ _).alloc (Nat.le_refl _) _) (by simp))
/-- a variable for a struct -/
theorem new_lawC {d : Option Tmp} {t ty : TypeId} {pos : String} {af : Array Edge} (w : World) (cs : List Value) (hz : (Tryd.prog.info? t).map (fun i => (i.zero, i.size)) = some (some (.agg cs.toArray), cs.length))
    (hK : ∀ w', Vr w' w.heap.size cs → Below w.heap.size w w' → w.heap.size < w'.heap.size → wpList Tryd.prog ops Q rest (a.put d (.pointer (some ⟨w.heap.size, 0, none⟩))) w') :
    wpList Tryd.prog ops Q (⟨d, Op.alloc t, ty, pos, af, none⟩ :: rest) a w := by
  refine wpList_plain rfl fun K hK' => ?_
  have hz' := (zero_of_info hz).1
  unfold Oper.wp
  simp [execOp, Instr.alloc, hz', newVar, newRow, Value.cells, Result.andThen]
  exact hK' _ _ (hK _ (Vr.new w t cs) ((Below.refl _ _).alloc (Nat.le_refl _) _) (by simp))
/-- a struct is written -/
theorem store_lawC {d : Option Tmp} {x y : Operand} {t ty : TypeId} {pos : String} {af : Array Edge} (w : World) (cs : List Value) (b p : Nat) (hx : a.eval x = .pointer (some ⟨b, p, none⟩)) (hy : a.eval y = .agg cs.toArray) (ht : w.there b p cs.length) (hs : (Tryd.prog.info? t).map (·.size) = some cs.length) (h1 : ∀ v ∈ cs, v.oneCell' = true)
    (hK : ∀ w', Hid (w' = w.setCells b p cs) → w'.rangeAt b p cs → w'.there b p cs.length → Below b w w' → wpList Tryd.prog ops Q rest (a.put d undef) w') :
    wpList Tryd.prog ops Q (⟨d, Op.store t x y, ty, pos, af, none⟩ :: rest) a w := by
  refine wpList_store_mid rfl t x y rfl b p cs.toArray hx hy (by simpa using ht) (by simpa using hs) (all_oneCell_toArray h1) ?_
  exact hK _ rfl (World.rangeAt_setCells_same w b p cs ht) (World.there_setCells ht b p _) (below_cells _ (Nat.le_refl _) _ _ (Below.refl _ _))
end

theorem results_cvv {fn : Func} {p q r : Tmp} {t : TypeId} (h : fn.results = #[.cell p t, .tmp q, .tmp r]) (tmps : Array Value) (w : World) (b : Nat) (cs : List Value) (v u : Value) (ht : Rowy t cs.length) (hp : tmps.getD p undef = .pointer (some ⟨b, 0, none⟩)) (hq : tmps.getD q undef = v) (hr : tmps.getD r undef = u) (ha : w.rangeAt b 0 cs) : (results fn tmps).run Tryd.prog w = .ok (.tuple #[.agg cs.toArray, v, u]) w := by
  have hp' : tmps[p]?.getD undef = .pointer (some ⟨b, 0, none⟩) := by simpa using hp
  have hq' : tmps[q]?.getD undef = v := by simpa using hq
  have hr' : tmps[r]?.getD undef = u := by simpa using hr
  simp [results, h, hp', hq', hr', asAddr, run_loadC ht ha]

/-- a head's cells -/
def hv (k n c l e t : Int) : List Value := [.int .i64 k, .int .i64 n, .int .i64 c, .int .u32 l, .int .u64 e, .int .u64 t]
theorem rowy_head : Rowy 26 6 := ⟨⟨_, Tryd.underlying26, rfl⟩, by kernel_rfl⟩
theorem zero_head : (Tryd.prog.info? 26).map (fun i => (i.zero, i.size)) = some (some (.agg (hv 0 0 0 0 0 0).toArray), 6) := by kernel_rfl
theorem zero_nums : (Tryd.prog.info? 88).map (fun i => (i.zero, i.size)) = some (some (.agg (ints .u64 [0, 0, 0, 0, 0, 0, 0])), 7) := by kernel_rfl
theorem hv_one (k n c l e t : Int) : ∀ v ∈ hv k n c l e t, v.oneCell' = true := fun v hv' => by
  simp [hv] at hv'
  rcases hv' with rfl | rfl | rfl | rfl | rfl | rfl <;> rfl

/-- the table of sizes lies in w -/
def Tab (w : World) : Prop := ∀ i : Nat, i < 7 → w.cell? ⟨0, i, none⟩ = some (.int .i64 (gb [1, 1, 1, 1, 4, 8, 8] i))
theorem Tab.below {w w' : World} (h : Tab w) (hb : Below w.heap.size w w') : Tab w' := fun i hi => by
  have := h i hi
  rw [hb.cell (World.block_lt_of_cell? w _ this)]; exact this
theorem Tab.lt {w : World} (h : Tab w) : 0 < w.heap.size := World.block_lt_of_cell? w _ (h 0 (by omega))
theorem Tab.low {w w' : World} {B : Nat} (h : Tab w) (hB : 0 < B) (hb : Below B w w') : Tab w' := fun i hi => by
  have := h i hi
  rw [hb.cell hB]; exact this
theorem Tab.range {w : World} (h : Tab w) : w.rangeAt 0 0 (([1, 1, 1, 1, 4, 8, 8] : List Int).map (Value.int .i64)) := fun j v hv => by
  have hj : j < 7 := by have := (List.getElem?_eq_some_iff.1 hv).1; simpa using this
  have key : ∀ (l : List Int) j, j < l.length → (l.map (Value.int .i64))[j]? = some (.int .i64 (gb l j)) := fun l j h => by simp [gb, List.getD, h]
  rw [Nat.zero_add, h j hj, ← hv, key [1, 1, 1, 1, 4, 8, 8] j hj]
theorem rowy_sizes : Rowy 90 7 := ⟨⟨_, Tryd.underlying90, rfl⟩, by kernel_rfl⟩
theorem rowy_nums : Rowy 88 7 := ⟨⟨_, Tryd.underlying88, rfl⟩, by kernel_rfl⟩
/-- an array's element -/
theorem idx_law {ops : Array Oper} {rest : List Oper} {o : Oper} {a : Act} {Q : Exit → Act → World → Prop} (w : World) (hg : o.guard = none) (x y : Operand) (t : TypeId) (hop : o.op = Op.index t x y) (v i q : Value) (hx : a.eval x = v) (hy : a.eval y = i)
    (hr : (Instr.index t v i).run Tryd.prog w = .ok q w) (hK : wpList Tryd.prog ops Q rest (a.put o.dst q) w) : wpList Tryd.prog ops Q (o :: rest) a w := by
  refine wpList_plain hg fun K hK' => ?_
  unfold Oper.wp execOp
  simp only [hop, hx, hy, Sem.run_bind, Sem.run_pure, Result.andThen_ok, hr]
  exact hK' _ _ hK
end Go.Proofs.YtbkaecjkgjkheaaDoor.he

/- What fault's bitsOf and Bit, and the reference's Has and Bit answer. No claim of its own. -/
namespace Go.Proofs.YtbkaecjkgjkheaaDoor.fa
open Go.RowKit
set_option maxRecDepth 20000

theorem makeFn (fn : Fn) (first cap : Array Value) (w : World) : (Instr.makeFunc fn first cap).run Tryd.prog w = .ok (.func fn first cap) w := rfl
end Go.Proofs.YtbkaecjkgjkheaaDoor.fa

/- What fault's Bit, and the reference's Has and Bit answer. No claim of its own. -/
namespace Go.Proofs.YtbkaecjkgjkheaaDoor.fa
open Go.RowKit
set_option maxRecDepth 20000

/-- what a mask says of the bit of any number -/
def bo (m : List Int) (i : Int) : Bool := if i < 0 then false else mk m i.toNat

theorem bit_prog (x : Int) (t : Nat) (h0 : 0 ≤ x) (h1 : x ≤ 255) : (bits .and .u8 (x / 2 ^ t) 1 != 0) = bit x.toNat t := by
  obtain ⟨X, rfl⟩ := Int.eq_ofNat_of_zero_le h0
  have e : ((X : Int) / 2 ^ t) = ((X / 2 ^ t : Nat) : Int) := by rw [Int.natCast_ediv]; norm_cast
  have l : X / 2 ^ t ≤ X := Nat.div_le_self _ _
  rw [e, Int.toNat_natCast]
  have := u8_and_nat (X / 2 ^ t) 1 (by omega) (by omega)
  rw [show ((1 : Nat) : Int) = 1 from rfl] at this
  rw [this, Nat.and_one_is_mod]
  unfold bit
  by_cases q : X / 2 ^ t % 2 = 1
  · rw [q]; decide
  · rw [show X / 2 ^ t % 2 = 0 by omega]; decide
end Go.Proofs.YtbkaecjkgjkheaaDoor.fa

/- What the reference's Bit and And answer. No claim of its own. -/
namespace Go.Proofs.YtbkaecjkgjkheaaDoor.fa
open Go.RowKit
set_option maxRecDepth 20000

/-- 'a & b', byte by byte -/
def andl (xs ys : List Int) : List Int := (List.range xs.length).map fun k => (((gb xs k).toNat &&& (gb ys k).toNat : Nat) : Int)
theorem andl_len (xs ys : List Int) : (andl xs ys).length = xs.length := by simp [andl]
theorem andl_gb (xs ys : List Int) (k : Nat) (h : k < xs.length) : gb (andl xs ys) k = (((gb xs k).toNat &&& (gb ys k).toNat : Nat) : Int) := by simp [gb, List.getD, andl, h]
theorem andl_ofb (xs ys : List Int) (hx : AllB xs) : andl xs ys = ofb xs.length fun i => hs xs i && hs ys i := by
  refine ext_gb (by rw [andl_len, ofb_len]) fun k hk => ?_
  rw [andl_len] at hk
  rw [andl_gb xs ys k hk, ofb_gb _ _ k hk, ands_ofb xs ys hx k]
theorem andl_all (xs ys : List Int) (hx : AllB xs) : AllB (andl xs ys) := by rw [andl_ofb xs ys hx]; exact ofb_all _ _
theorem andl_take (xs ys : List Int) (k : Nat) (hk : k < xs.length) : (andl xs ys).take (k + 1) = (andl xs ys).take k ++ [gb (andl xs ys) k] := by
  rw [List.take_succ_eq_append_getElem (by rw [andl_len]; exact hk)]
  simp [gb, List.getD, show k < (andl xs ys).length by rw [andl_len]; exact hk]
end Go.Proofs.YtbkaecjkgjkheaaDoor.fa

/- What fault's toClear and programmed answer. No claim of its own. -/
namespace Go.Proofs.YtbkaecjkgjkheaaDoor.fa
open Go.RowKit
set_option maxRecDepth 20000

/-- the bits of byte i that a program is to clear -/
def tc (xs ys : List Int) (i : Nat) : Int := (((gb xs i).toNat &&& (255 - (gb ys i).toNat) : Nat) : Int)
theorem tc_bd (xs ys : List Int) (hx : AllB xs) (i : Nat) : 0 ≤ tc xs ys i ∧ tc xs ys i ≤ 255 := by
  have := hx i
  unfold tc
  have h : (gb xs i).toNat &&& (255 - (gb ys i).toNat) ≤ (gb xs i).toNat := Nat.and_le_left
  omega

/-- the function v tells D of the first n bytes, now and later -/
def Tells (w : World) (v : Value) (D : Nat → Int) (n : Nat) : Prop := ∃ K caps, v = .func (.func K) #[] caps ∧ (∀ (q : Array Value) (w : World), (callFunc K q).run Tryd.prog w = .ok (.enter K q) w) ∧ (∀ i, 0 ≤ D i ∧ D i ≤ 255) ∧
  ∀ w', Below w.heap.size w w' → ∀ i, i < n → Calls Tryd.prog K (#[.int .i64 i] ++ caps) w' fun e w'' => e = .returned (.int .u8 (D i)) ∧ ∃ m, w'' = w'.drewN m

/-- what is there behind a program of which D tells what is done -/
def pgl (xs ys : List Int) (D : Nat → Int) : List Int := (List.range xs.length).map fun k => (((gb xs k).toNat &&& (255 - ((tc xs ys k).toNat &&& (D k).toNat)) : Nat) : Int)
theorem pgl_len (xs ys : List Int) (D : Nat → Int) : (pgl xs ys D).length = xs.length := by simp [pgl]
theorem pgl_gb (xs ys : List Int) (D : Nat → Int) (k : Nat) (h : k < xs.length) : gb (pgl xs ys D) k = (((gb xs k).toNat &&& (255 - ((tc xs ys k).toNat &&& (D k).toNat)) : Nat) : Int) := by simp [gb, List.getD, pgl, h]
theorem pgl_all (xs ys : List Int) (D : Nat → Int) (hx : AllB xs) : AllB (pgl xs ys D) := allB_mem fun z hz => by
  obtain ⟨k, hk, rfl⟩ := List.mem_map.1 hz
  have := hx k
  have h : (gb xs k).toNat &&& (255 - ((tc xs ys k).toNat &&& (D k).toNat)) ≤ (gb xs k).toNat := Nat.and_le_left
  omega
/-- zs, filled as far as place k -/
def prt (zs : List Int) (k : Nat) : List Int := zs.take k ++ List.replicate (zs.length - k) 0
theorem prt_zero (zs : List Int) : prt zs 0 = List.replicate zs.length 0 := by simp [prt]
theorem prt_end (zs : List Int) : prt zs zs.length = zs := by simp [prt]
theorem prt_set (zs : List Int) (k : Nat) (h : k < zs.length) : (prt zs k).set k (gb zs k) = prt zs (k + 1) := by
  unfold prt
  obtain ⟨d, hd⟩ : ∃ d, zs.length - k = d + 1 := ⟨zs.length - k - 1, by omega⟩
  have e : zs.length - (k + 1) = d := by omega
  have hm : min k zs.length = k := by omega
  rw [hd, e, List.set_append_right _ _ (by simp; omega), List.take_succ_eq_append_getElem h, List.append_assoc]
  simp only [List.length_take, hm, Nat.sub_self, List.replicate_succ, List.set_cons_zero, gb, List.getD, List.getElem?_eq_getElem h, Option.getD_some, List.cons_append, List.nil_append]
end Go.Proofs.YtbkaecjkgjkheaaDoor.fa

/- What Len8 answers: how many bits a byte has; which is the last one of it. No claim of its own. -/
namespace Go.Proofs.YtbkaecjkgjkheaaDoor.fa
open Go.RowKit
set_option maxRecDepth 20000

/-- how many bits a byte has -/
def ln (x : Nat) : Nat := if x < 1 then 0 else if x < 2 then 1 else if x < 4 then 2 else if x < 8 then 3 else if x < 16 then 4 else if x < 32 then 5 else if x < 64 then 6 else if x < 128 then 7 else 8
theorem ln_top : ∀ x, x < 256 → 0 < x → 1 ≤ ln x ∧ ln x ≤ 8 ∧ bit x (ln x - 1) = true ∧ ∀ t, t < 8 → ln x ≤ t → bit x t = false := by decide +kernel
end Go.Proofs.YtbkaecjkgjkheaaDoor.fa

/- What fault's lastToClear answers: the last bit that is to be cleared. No claim of its own. -/
namespace Go.Proofs.YtbkaecjkgjkheaaDoor.fa
open Go.RowKit
set_option maxRecDepth 20000

theorem bit_not : ∀ y, y < 256 → ∀ t, t < 8 → bit (255 - y) t = !bit y t := by decide +kernel
theorem bit_and (a b t : Nat) : bit (a &&& b) t = (bit a t && bit b t) := by rw [bit_test, bit_test, bit_test, Nat.testBit_and]
theorem bit_or (a b t : Nat) : bit (a ||| b) t = (bit a t || bit b t) := by rw [bit_test, bit_test, bit_test, Nat.testBit_or]
theorem bit_zero (t : Nat) : bit 0 t = false := by unfold bit; simp
theorem bit_pow : ∀ k, k < 8 → ∀ t, t < 8 → bit (2 ^ k) t = decide (t = k) := by decide +kernel
theorem tc_bit (xs ys : List Int) (hy : AllB ys) (j t : Nat) (ht : t < 8) : bit (tc xs ys j).toNat t = due xs ys (8 * j + t) := by
  have b := hy j
  unfold tc due
  rw [Int.toNat_natCast, bit_and, bit_not _ (by omega) t ht, hs_at xs j t ht, hs_at ys j t ht]
theorem lst_eq (xs ys : List Int) (N p : Nat) (hp : p < N) (hd : due xs ys p = true) (h : ∀ k, p < k → k < N → due xs ys k = false) : lst xs ys N = p + 1 := by
  induction N with
  | zero => omega
  | succ N ih =>
    unfold lst
    by_cases e : p = N
    · subst e; rw [if_pos hd]
    · rw [if_neg (by rw [h N (by omega) (by omega)]; simp), ih (by omega) (fun k h1 h2 => h k h1 (by omega))]
theorem lst_none (xs ys : List Int) (N : Nat) (h : ∀ k, k < N → due xs ys k = false) : lst xs ys N = 0 := by
  induction N with
  | zero => rfl
  | succ N ih =>
    unfold lst
    rw [if_neg (by rw [h N (by omega)]; simp), ih (fun k hk => h k (by omega))]
/-- the last bit that is to be cleared is bit t of byte p, and z is it; or there is none -/
def IsL (xs ys : List Int) (p z : Nat) : Prop := (p = 0 ∧ z = 0 ∧ lst xs ys (8 * xs.length) = 0) ∨ ∃ t, t < 8 ∧ p < xs.length ∧ z = 2 ^ t ∧ lst xs ys (8 * xs.length) = 8 * p + t + 1
theorem isL_some (xs ys : List Int) (hx : AllB xs) (hy : AllB ys) (p x : Nat) (hp : p < xs.length) (hx0 : tc xs ys p = x) (h0 : 0 < x) (h : ∀ q, 8 * (p + 1) ≤ q → q < 8 * xs.length → due xs ys q = false) : IsL xs ys p (2 ^ (ln x - 1)) := by
  have hb := tc_bd xs ys hx p
  obtain ⟨l1, l2, l3, l4⟩ := ln_top x (by omega) h0
  have hbit : ∀ t, t < 8 → due xs ys (8 * p + t) = bit x t := fun t ht => by rw [← tc_bit xs ys hy p t ht, hx0, Int.toNat_natCast]
  refine Or.inr ⟨ln x - 1, by omega, hp, rfl, lst_eq xs ys _ _ (by omega) (by rw [hbit _ (by omega)]; exact l3) fun k h1 h2 => ?_⟩
  by_cases hk : 8 * (p + 1) ≤ k
  · exact h k hk h2
  · have e : k = 8 * p + (k - 8 * p) := by omega
    rw [e, hbit _ (by omega)]
    exact l4 _ (by omega) (by omega)
theorem due_byte (xs ys : List Int) (hy : AllB ys) (p : Nat) (h0 : tc xs ys p = 0) (q : Nat) (h1 : 8 * p ≤ q) (h2 : q < 8 * (p + 1)) : due xs ys q = false := by
  have := tc_bit xs ys hy p (q - 8 * p) (by omega)
  rw [h0, show (0 : Int).toNat = 0 from rfl, bit_zero, show 8 * p + (q - 8 * p) = q by omega] at this
  exact this.symm
theorem pow_ln (x : Nat) (h : 0 < x) (hx : x < 256) : 2 ^ (ln x - 1) ≤ 128 := by
  obtain ⟨l1, l2, -⟩ := ln_top x hx h
  exact Nat.pow_le_pow_right (by omega) (show ln x - 1 ≤ 7 by omega)
end Go.Proofs.YtbkaecjkgjkheaaDoor.fa

