/- What the reference's Unhex answers. No claim of its own. -/
import Derived.Test.YtocihlnmajkceaaDoorRefHex
namespace Go.Proofs.YtocihlnmajkceaaDoor
open Go.RowKit Go.PlainAid

theorem bt_digS_all : ∀ k : Fin 16, bt digS k.val = hd (k.val : Int) := by decide
theorem bt_digS (k : Nat) (h : k < 16) : bt (ByteArray.mk #[48, 49, 50, 51, 52, 53, 54, 55, 56, 57, 97, 98, 99, 100, 101, 102]) k = hd (k : Int) := bt_digS_all ⟨k, h⟩

/-- the bytes that the first j signs tell -/
def valsTo (s : ByteArray) (j : Nat) : List Int := (List.range (j / 2)).map (hv s)
theorem valsTo_even (s : ByteArray) (j : Nat) (h : j % 2 = 0) : valsTo s (j + 1) = valsTo s j := by unfold valsTo; rw [show (j + 1) / 2 = j / 2 by omega]
theorem valsTo_odd (s : ByteArray) (j : Nat) (h : j % 2 = 1) : valsTo s (j + 1) = valsTo s j ++ [hv s (j / 2)] := by
  unfold valsTo; rw [show (j + 1) / 2 = j / 2 + 1 by omega, List.range_succ]; simp
theorem valsTo_len (s : ByteArray) (j : Nat) : (valsTo s j).length = j / 2 := by simp [valsTo]
def halfAt (s : ByteArray) (j : Nat) : Int := if j = 0 then 0 else dv (bt s (j - 1))

/-- what the inner loop has found so far -/
def Found (x a : Int) (k : Nat) : Prop := (a = -1 ∧ ∀ t : Nat, t < k → hd t ≠ x) ∨ (a = dv x ∧ 0 ≤ dv x ∧ dv x < k)
theorem Found.hit {x : Int} {k : Nat} (hk : k < 16) (hx : hd (k : Int) = x) : Found x (k : Int) (k + 1) := by
  right; rw [← hx, dv_hd k hk]; omega
theorem Found.miss {x a : Int} {k : Nat} (h : Found x a k) (hx : hd (k : Int) ≠ x) : Found x a (k + 1) := by
  rcases h with ⟨h1, h2⟩ | ⟨h1, h2, h3⟩
  · left; refine ⟨h1, fun t ht => ?_⟩
    by_cases h : t < k
    · exact h2 t h
    · rw [show t = k by omega]; exact hx
  · right; omega
theorem Found.done {x a : Int} (h : Found x a 16) : a = dv x := by
  rcases h with ⟨h1, h2⟩ | ⟨h1, _⟩
  · rw [h1, dv_none x h2]
  · exact h1

set_option maxHeartbeats 8000000 in
theorem runhex_any (s : ByteArray) (w : World) (hs : s.size ≤ 1048576) :
    Calls Tryd.prog 27 #[.string s] w fun e w' => ∃ v t, e = .returned (.tuple #[v, .bool t]) ∧ Below w.heap.size w w' ∧ (Good s → t = true ∧ Byt w' v (vals s)) ∧ (¬ Good s → t = false) := by
  have gt := get_bt s
  go_enter Tryd.func27, Tryd.ntmps27
  go_wp2
  go_loopw [5, 6, 7] (fun v h i wr => ∃ j : Nat, j ≤ s.size ∧ i = .int .i64 j ∧ h = .int .i64 (halfAt s j) ∧ Own w.heap.size wr v (valsTo s j) ∧ Below w.heap.size w wr ∧ Hid (∀ t, t < j → 0 ≤ dv (bt s t))) (fun _ _ i _ => s.size - (intOf i).toNat)
  case atStart => exact ⟨0, Nat.zero_le _, rfl, rfl, Own.empty w (Nat.le_refl _), (Below.refl _ _).alloc (Nat.le_refl _) _, fun t ht => by omega⟩
  case round =>
    obtain ⟨j, hj, rfl, rfl, hown, hbel, hgood⟩ := hrel
    have hsz := hbel.size
    by_cases hlt : j < s.size
    · have lj : (j : Int) < (s.size : Int) := by omega
      obtain ⟨x, hx⟩ : ∃ x, bt s j = x := ⟨_, rfl⟩
      have X : Hid (bt s j = x) := hx
      go_wp2
      go_loopw [8, 9] (fun a i wi => ∃ (k n : Nat) (y : Int), k ≤ 16 ∧ i = .int .i64 k ∧ a = .int .i64 y ∧ wi = wr.drewN n ∧ Hid (Found x y k)) (fun _ i _ => 16 - (intOf i).toNat)
      case atStart => exact ⟨0, 0, -1, by omega, rfl, rfl, rfl, Or.inl ⟨rfl, fun t ht => by omega⟩⟩
      case round =>
        obtain ⟨k, n, y, hk, rfl, rfl, rfl, hf⟩ := hrel
        by_cases hlk : k < 16
        · have lk : (k : Int) < 16 := by omega
          have gd := get_bt (ByteArray.mk #[48, 49, 50, 51, 52, 53, 54, 55, 56, 57, 97, 98, 99, 100, 101, 102])
          have gk := bt_digS k hlk
          go_wp2
          go_quiet (fail)
          go_wp2
          · have hxk : (hd (k : Int) == x) = true := by assumption
            go_roundw
            case rel => exact ⟨k + 1, n + nq, k, by omega, by go_num, rfl, rfl, Found.hit hlk (by simpa using hxk)⟩
            case measure => simp [intOf]; omega
          · have hxk : (hd (k : Int) == x) = false := by assumption
            go_roundw
            case rel => exact ⟨k + 1, n + nq, y, by omega, by go_num, rfl, rfl, hf.out.miss (by simpa using hxk)⟩
            case measure => simp [intOf]; omega
        · have hk16 : k = 16 := by omega
          subst hk16
          obtain rfl := hf.out.done
          by_cases hneg : dv x < 0
          · have NG : Hid (¬ Good s) := fun g => by have := g.2 j hlt; rw [X.out] at this; omega
            go_wp2
            go_ret2
            exact ⟨_, _, rfl, below_drewN hbel n, fun g => absurd g NG.out, fun _ => rfl⟩
          · have hpos : 0 ≤ dv x := by omega
            have h15 := (hd_dv x hpos).2
            have G' : Hid (∀ t, t < j + 1 → 0 ≤ dv (bt s t)) := fun t ht => by
              by_cases h : t < j
              · exact hgood.out t h
              · rw [show t = j by omega, X.out]; exact hpos
            have HH : Hid (halfAt s (j + 1) = dv x) := by
              show _ = _
              unfold halfAt; rw [if_neg (by omega)]; simp only [Nat.add_sub_cancel]; rw [X.out]
            by_cases hodd : j % 2 = 1
            · have ho : ((j : Int) % 2 == 1) = true := by simp; omega
              have hb : 0 ≤ halfAt s j ∧ halfAt s j ≤ 15 := by
                unfold halfAt; rw [if_neg (by omega)]
                have h0 := hgood.out (j - 1) (by omega)
                exact ⟨h0, (hd_dv _ h0).2⟩
              have hval : IntKind.u8.wrap (halfAt s j * 16 + dv x) = hv s (j / 2) := by
                rw [IntKind.wrap_u8']
                unfold hv
                have e1 : 2 * (j / 2) = j - 1 := by omega
                have e2 : j - 1 + 1 = j := by omega
                have e3 : halfAt s j = dv (bt s (j - 1)) := by unfold halfAt; rw [if_neg (by omega)]
                rw [e1, e2, X.out, ← e3]
                omega
              have SN : Hid (valsTo s (j + 1) = valsTo s j ++ [hv s (j / 2)]) := valsTo_odd s j hodd
              have VL : Hid ((valsTo s j).length ≤ 1099511627776) := by show _ ≤ _; rw [valsTo_len]; omega
              clear hodd
              go_wp2_with (at_builtin; refine push_law (wr.drewN n) rfl (.tmp 34) (.tmp 40) rfl w.heap.size (by simpa using hsz) _ _ (hv s (j / 2)) rfl rfl hown VL.out ?_; intro v' w1 hown' hbel')
              rw [← SN.out] at hown'
              go_roundw
              case rel => exact ⟨j + 1, by omega, by go_num, by rw [HH.out], hown', (below_drewN hbel n).trans hbel', G'⟩
              case measure => simp [intOf]; omega
            · have ho : ((j : Int) % 2 == 1) = false := by simp; omega
              have SN : Hid (valsTo s (j + 1) = valsTo s j) := valsTo_even s j (by omega)
              clear hodd
              go_wp2
              go_roundw
              case rel => exact ⟨j + 1, by omega, by go_num, by rw [HH.out], by rw [SN.out]; exact hown, below_drewN hbel n, G'⟩
              case measure => simp [intOf]; omega
    · have hjs : j = s.size := by omega
      subst hjs
      by_cases he : s.size % 2 = 0
      · have he2 : ((s.size : Int) % 2 == 0) = true := by simp; omega
        have G : Hid (Good s) := ⟨he, hgood.out⟩
        clear he
        go_wp2
        go_ret2
        exact ⟨_, _, rfl, hbel, fun _ => ⟨rfl, hown.byt (vals_all s G.out)⟩, fun g => absurd G.out g⟩
      · have he2 : ((s.size : Int) % 2 == 0) = false := by simp; omega
        have NG : Hid (¬ Good s) := fun g => he g.1
        clear he
        go_wp2
        go_ret2
        exact ⟨_, _, rfl, hbel, fun g => absurd g NG.out, fun _ => rfl⟩
end Go.Proofs.YtocihlnmajkceaaDoor
