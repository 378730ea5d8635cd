/- What octet's Unhex answers. No claim of its own. -/
import Derived.Test.YtocihlnmajkceaaDoorUnhex
import Derived.Test.YtocihlnmajkceaaDoorXor
import Derived.Deep.RegionWith
namespace Go.Proofs.YtocihlnmajkceaaDoor
open Go.RowKit Go.PlainAid

/-- every sign is a digit, and they are even in number -/
def Good (s : ByteArray) : Prop := s.size % 2 = 0 ∧ ∀ i, i < s.size → 0 ≤ dv (bt s i)
def hv (s : ByteArray) (i : Nat) : Int := dv (bt s (2 * i)) * 16 + dv (bt s (2 * i + 1))
def vals (s : ByteArray) : List Int := (List.range (s.size / 2)).map (hv s)
theorem vals_len (s : ByteArray) : (vals s).length = s.size / 2 := by simp [vals]
theorem vals_gb (s : ByteArray) (k : Nat) (h : k < s.size / 2) : gb (vals s) k = hv s k := by simp [gb, vals, List.getD, h]
theorem hv_bd (s : ByteArray) (k : Nat) (h1 : 0 ≤ dv (bt s (2 * k))) (h2 : 0 ≤ dv (bt s (2 * k + 1))) : 0 ≤ hv s k ∧ hv s k ≤ 255 := by
  have a := (hd_dv _ h1).2
  have b := (hd_dv _ h2).2
  unfold hv; omega
theorem vals_all (s : ByteArray) (h : Good s) : AllB (vals s) := by
  intro k
  by_cases hk : k < s.size / 2
  · rw [vals_gb s k hk]
    exact hv_bd s k (h.2 _ (by omega)) (h.2 _ (by omega))
  · have : gb (vals s) k = 0 := by simp only [gb, List.getD, List.getElem?_eq_none (show (vals s).length ≤ k by rw [vals_len]; omega)]; rfl
    omega
theorem shl4 (a b : Int) (ha : 0 ≤ a ∧ a ≤ 15) (hb : 0 ≤ b ∧ b ≤ 15) : bits .or .u8 (a * 16 % 256) b = a * 16 + b := by
  have hw : a * 16 % 256 = a * 16 := by omega
  rw [hw, u8_or _ _ (by omega) (by omega) hb.1 (by omega), nat_join 4 _ _ (by omega) (by omega)]
  omega

set_option maxHeartbeats 4000000 in
theorem unhex_even (s : ByteArray) (w : World) (ht : Tab w) (hs : s.size ≤ 1048576) (he : s.size % 2 = 0) :
    Calls Tryd.prog 26 #[.string s] w fun e w' => ∃ v c, e = .returned (.tuple #[v, .int .i64 c]) ∧ Below w.heap.size w w' ∧ (Good s → c = 0 ∧ Byt w' v (vals s)) ∧ (¬ Good s → c = 1 ∧ v = .slice none 0 0) := by
  have HT : Hid (Tab w) := ht
  have gt := get_bt s
  have HE : Hid (s.size % 2 = 0) := he
  have he2 : ((s.size : Int) % 2 != 0) = false := by simp; omega
  clear ht he
  obtain ⟨n, hn⟩ : ∃ n, n = s.size / 2 := ⟨_, rfl⟩
  have HN : Hid (n = s.size / 2) := hn
  have hn2 : 2 * n ≤ s.size := by omega
  have hn3 : (s.size : Int) / 2 = (n : Int) := by omega
  have HV : Hid ((vals s).length = n) := by show _ = _; rw [vals_len, hn]
  have hn4 : n ≤ 1048576 := by omega
  clear hn
  go_enter Tryd.func26, Tryd.ntmps26
  go_wp2_with (at_make; refine make_law _ rfl (.tmp 16) (.tmp 16) rfl w.heap.size (Nat.le_refl _) _ n rfl rfl (by omega) (by omega) ?_; intro w1 hown hbel hlt)
  go_loopw [20] (fun i wr => ∃ k : Nat, k ≤ n ∧ i = .int .i64 k ∧ OwnN w.heap.size wr w.heap.size n (part (vals s) k) ∧ Below w.heap.size w wr ∧ Hid (∀ t, t < 2 * k → 0 ≤ dv (bt s t))) (fun i _ => n - (intOf i).toNat)
  case atStart => exact ⟨0, Nat.zero_le _, rfl, by rw [part_zero, HV.out]; exact hown, hbel, fun t ht => by omega⟩
  case round =>
    clear hown hbel
    obtain ⟨k, hk, rfl, hown, hbel, hgood⟩ := hrel
    by_cases hlt' : k < n
    · have i1 : ((2 : Int) * (k : Int)).toNat = 2 * k := by omega
      have i2 : ((2 : Int) * (k : Int) + 1).toNat = 2 * k + 1 := by omega
      have b1 : 2 * k < s.size := by omega
      have b2 : 2 * k + 1 < s.size := by omega
      have T := HT.out.below hbel
      obtain ⟨x1, hx1⟩ : ∃ x, bt s (2 * k) = x := ⟨_, rfl⟩
      obtain ⟨x2, hx2⟩ : ∃ x, bt s (2 * k + 1) = x := ⟨_, rfl⟩
      have X1 : Hid (bt s (2 * k) = x1) := hx1
      have X2 : Hid (bt s (2 * k + 1) = x2) := hx2
      by_cases h12 : 0 ≤ dv x1 ∧ 0 ≤ dv x2
      · have D1 : Hid (decide (0 ≤ dv x1) = true) := decide_eq_true h12.1
        have D2 : Hid (decide (0 ≤ dv x2) = true) := decide_eq_true h12.2
        have H12 : Hid (0 ≤ dv x1 ∧ 0 ≤ dv x2) := h12
        have c3 := hown.cell hlt'
        have c4 := hown.free k
        have hown' : OwnN w.heap.size (wr.setCell ⟨w.heap.size, k, none⟩ (.int .u8 (hv s k))) w.heap.size n (part (vals s) (k + 1)) := by
          have h := hown.set k (gb (vals s) k)
          rw [part_set _ k (by rw [HV.out]; exact hlt'), vals_gb s k (by rw [← HN.out]; exact hlt')] at h
          exact h
        clear h12
        go_wp2_with (first
          | (go_at_call_of 30 (Value.int IntKind.u8 x1); refine (dv_any _ _ T).mono ?_; rintro e w2 ⟨y1, rfl, hy1, hw⟩; obtain rfl := hw.symm; rw [D1.out]; obtain rfl := hy1 H12.out.1)
          | (go_at_call_of 30 (Value.int IntKind.u8 x2); refine (dv_any _ _ T).mono ?_; rintro e w2 ⟨y2, rfl, hy2, hw⟩; obtain rfl := hw.symm; rw [D2.out]; obtain rfl := hy2 H12.out.2))
        go_roundw
        case rel =>
          have e : bits .or .u8 (dv x1 * 16 % 256) (dv x2) = hv s k := by
            rw [shl4 _ _ ⟨H12.out.1, (hd_dv _ H12.out.1).2⟩ ⟨H12.out.2, (hd_dv _ H12.out.2).2⟩]
            unfold hv; rw [X1.out, X2.out]
          refine ⟨k + 1, by omega, by go_num, ?_, hbel.setCell (Nat.le_refl _) _, fun t ht => ?_⟩
          · rw [e]; exact hown'
          · by_cases h1 : t < 2 * k
            · exact hgood.out t h1
            · by_cases h2 : t = 2 * k
              · rw [h2, X1.out]; exact H12.out.1
              · rw [show t = 2 * k + 1 by omega, X2.out]; exact H12.out.2
        case measure => simp [intOf]; omega
      · have NG : Hid (¬ Good s) := fun g => h12 ⟨by rw [← X1.out]; exact g.2 _ b1, by rw [← X2.out]; exact g.2 _ b2⟩
        by_cases h1 : 0 ≤ dv x1
        · have D1 : Hid (decide (0 ≤ dv x1) = true) := decide_eq_true h1
          have D2 : Hid (decide (0 ≤ dv x2) = false) := decide_eq_false fun h => h12 ⟨h1, h⟩
          clear h12 h1
          go_wp2_with (first
            | (go_at_call_of 30 (Value.int IntKind.u8 x1); refine (dv_any _ _ T).mono ?_; rintro e w2 ⟨y1, rfl, -, hw⟩; obtain rfl := hw.symm; rw [D1.out])
            | (go_at_call_of 30 (Value.int IntKind.u8 x2); refine (dv_any _ _ T).mono ?_; rintro e w2 ⟨y2, rfl, -, hw⟩; obtain rfl := hw.symm; rw [D2.out]))
          go_ret2
          exact ⟨_, _, rfl, hbel, fun g => absurd g NG.out, fun _ => ⟨rfl, rfl⟩⟩
        · have D1 : Hid (decide (0 ≤ dv x1) = false) := decide_eq_false h1
          clear h12 h1
          go_wp2_with (first
            | (go_at_call_of 30 (Value.int IntKind.u8 x1); refine (dv_any _ _ T).mono ?_; rintro e w2 ⟨y1, rfl, -, hw⟩; obtain rfl := hw.symm; rw [D1.out])
            | (go_at_call_of 30 (Value.int IntKind.u8 x2); refine (dv_any _ _ T).mono ?_; rintro e w2 ⟨y2, rfl, -, hw⟩; obtain rfl := hw.symm))
          go_ret2
          exact ⟨_, _, rfl, hbel, fun g => absurd g NG.out, fun _ => ⟨rfl, rfl⟩⟩
    · have hks : k = n := by omega
      subst hks
      have G : Hid (Good s) := ⟨HE.out, fun t ht => hgood.out t (by have := HN.out; have := HE.out; omega)⟩
      have hown2 : OwnN w.heap.size wr w.heap.size k (vals s) := by
        have := hown; rw [← HV.out, part_end, HV.out] at this; exact this
      go_wp2
      go_ret2
      exact ⟨_, _, rfl, hbel, fun _ => ⟨rfl, hown2.byt (vals_all s G.out)⟩, fun g => absurd G.out g⟩

set_option maxHeartbeats 4000000 in
theorem unhex_any (s : ByteArray) (w : World) (ht : Tab w) (hs : s.size ≤ 1048576) :
    Calls Tryd.prog 26 #[.string s] w fun e w' => ∃ v c, e = .returned (.tuple #[v, .int .i64 c]) ∧ Below w.heap.size w w' ∧ (Good s → c = 0 ∧ Byt w' v (vals s)) ∧ (¬ Good s → c = 1 ∧ v = .slice none 0 0) := by
  by_cases he : s.size % 2 = 0
  · exact unhex_even s w ht hs he
  · have he2 : ((s.size : Int) % 2 != 0) = true := by simp; omega
    have NG : Hid (¬ Good s) := fun g => he g.1
    clear he
    go_enter Tryd.func26, Tryd.ntmps26
    go_wp2
    go_ret2
    exact ⟨_, _, rfl, Below.refl _ _, fun g => absurd g NG.out, fun _ => ⟨rfl, rfl⟩⟩
end Go.Proofs.YtocihlnmajkceaaDoor
