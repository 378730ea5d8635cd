/- What the library's Compact does to a row of places. No claim of its own. -/
import Derived.Test.YtedmmpognhpbdaaJDel
namespace Go.Proofs.Ytedmmpognhpbdaa.pm
open Go.RowKit Go.Proofs.Ytedmmpognhpbdaa.he
set_option maxRecDepth 20000

/-- the first n, each one that stands behind one of its kind left out -/
def dn (L : List PL) : Nat → List PL
  | 0 => []
  | n + 1 => if 0 < n ∧ L.getD n (0, 0) = L.getD (n - 1) (0, 0) then dn L n else dn L n ++ [L.getD n (0, 0)]
theorem getD_of {L : List PL} {n : Nat} {x : PL} (h : L[n]? = some x) : L.getD n (0, 0) = x := by simp [List.getD, h]
theorem dn_yes {L : List PL} {n m : Nat} {x : PL} (hm : n = m + 1) (h1 : L[n]? = some x) (h2 : L[m]? = some x) : dn L (n + 1) = dn L n := by
  subst hm
  rw [dn, if_pos ⟨Nat.succ_pos _, by rw [getD_of h1, Nat.add_sub_cancel, getD_of h2]⟩]
theorem dn_no {L : List PL} {n m : Nat} {x y : PL} (hm : n = m + 1) (h1 : L[n]? = some x) (h2 : L[m]? = some y) (e : ¬ x = y) : dn L (n + 1) = dn L n ++ [x] := by
  subst hm
  rw [dn, if_neg (by rw [getD_of h1, Nat.add_sub_cancel, getD_of h2]; exact fun z => e z.2), getD_of h1]
theorem dn_one {L : List PL} (h : 0 < L.length) : dn L 1 = L.take 1 := by
  cases L with
  | nil => simp at h
  | cons x r => rfl
theorem neq_place (p q : Int × Int) (w : World) : (binOp .neq 31 (.agg #[.int .i64 p.1, .int .i64 p.2]) (.agg #[.int .i64 q.1, .int .i64 q.2])).run Try.prog w = .ok (.bool (!decide (p = q))) w := by
  have h : (Op.equalIn 10000 31 (.agg #[.int .i64 p.1, .int .i64 p.2]) (.agg #[.int .i64 q.1, .int .i64 q.2])).run Try.prog w = .ok (decide (p = q)) w := run_equal p q w
  rw [run_neq_struct, h]
  rfl
/-- where the row stands: k written, those ahead of m read -/
def Cp (g : Nat) (L : List PL) (w wr : World) (k p m : Nat) : Prop := ∃ R : List PL, Rl wr g R ∧ R.length = L.length ∧ R.take k = dn L m ∧ R.drop p = L.drop p ∧ k ≤ p ∧ Ch (fun k => k = g) w wr
set_option maxHeartbeats 8000000 in
theorem compact_any (g cap : Nat) (L : List PL) (w : World) (hR : Rl w g L) (hn : L.length ≤ 100000) (hc : L.length ≤ cap) : Calls Try.prog 58 #[.slice (some ⟨g, 0, none⟩) L.length cap] w fun e w' => ∃ R : List PL, e = .returned (.slice (some ⟨g, 0, none⟩) R.length cap) ∧ R = dn L L.length ∧ Rl w' g R ∧ Ch (fun k => k = g) w w' := by
  by_cases hs : L.length < 2
  · have e : dn L L.length = L := by
      rcases L with _ | ⟨x, _ | ⟨y, r⟩⟩
      · rfl
      · rfl
      · simp at hs
        omega
    rw [e]
    have HR : Hid (Rl w g L) := hR
    obtain ⟨n, hN⟩ : ∃ n, n = L.length := ⟨_, rfl⟩
    rw [← hN] at hs ⊢
    have NN : Hid (n = L.length) := hN
    have n0 : (n : Int) < 2 := by omega
    clear hR hN hn hc e
    go_enter Try.func58, Try.ntmps58
    go_wp2
    go_ret
    exact ⟨L, by rw [← NN.out]; rfl, rfl, HR.out, Ch.refl _ _⟩
  · have HR : Hid (Rl w g L) := hR
    obtain ⟨n, hN⟩ : ∃ n, n = L.length := ⟨_, rfl⟩
    rw [← hN] at hs hn hc ⊢
    have NN : Hid (n = L.length) := hN
    have HC : Hid (n ≤ cap) := hc
    have n0 : ¬ (n : Int) < 2 := by omega
    have D1 : Hid (dn L 1 = L.take 1) := dn_one (by omega)
    clear hR hN hc
    go_enter Try.func58, Try.ntmps58
    go_wp2
    go_loopw [3] (fun kv wr => ∃ i j : Nat, Hid (j = i + 1) ∧ j ≤ n ∧ kv = .int .i64 j ∧ Hid (dn L j = L.take j) ∧ Hid (Below w.heap.size w wr)) (fun kv _ => n - (intOf kv).toNat)
    case atStart => exact ⟨0, 1, rfl, by omega, by go_num, D1, Below.refl _ _⟩
    case round =>
      obtain ⟨i, j, HJ, hj, rfl, HD, HB⟩ := hrel
      have j0 : (0 : Int) ≤ (j : Int) := by omega
      have i0 : (0 : Int) ≤ (i : Int) := by omega
      by_cases hlt : j < n
      · have j1 : (j : Int) < (n : Int) := by omega
        have i1 : (i : Int) < (n : Int) := by have := HJ.out; omega
        have ji : IntKind.i64.wrap ((j : Int) - 1) = (i : Int) := by have := HJ.out; rw [IntKind.wrap_i64]; omega
        have jw : IntKind.i64.wrap ((j : Int) + 1) = ((j + 1 : Nat) : Int) := by rw [IntKind.wrap_i64]; omega
        obtain ⟨x, hx⟩ : ∃ x, L[j]? = some x := ⟨_, List.getElem?_eq_getElem (by have := NN.out; omega)⟩
        obtain ⟨y, hy⟩ : ∃ y, L[i]? = some y := ⟨_, List.getElem?_eq_getElem (by have := NN.out; have := HJ.out; omega)⟩
        have HX : Hid (L[j]? = some x) := hx
        have HY : Hid (L[i]? = some y) := hy
        have nx := two ((HR.out.below HB.out) j x hx)
        have ny := two ((HR.out.below HB.out) i y hy)
        clear hx hy
        by_cases hxy : x = y
        · have eq : ∀ W : World, (Op.equalIn 10000 31 (.agg #[.int .i64 x.1, .int .i64 x.2]) (.agg #[.int .i64 y.1, .int .i64 y.2])).run Try.prog W = .ok true W := fun W => (run_equal x y W).trans (by rw [decide_eq_true hxy])
          have gd : Try.prog.eqGuardType Try.prog.depth 31 = false := by kernel_rfl
          have XY : Hid (x = y) := hxy
          clear hxy
          have t0 : (0 : Nat) = 0 := rfl
          go_wp2
          go_quiet (fail)
          clear eq nx ny
          have HB : Hid (Below w.heap.size w (wr.drewN nq)) := below_dr HB.out _
          have HR1 : Hid (Rl (wr.drewN nq) g L) := HR.out.below HB.out
          have VV : Hid (∀ v, v = sliced (some ⟨g, 0, none⟩) j n cap 2 → v = .slice (some ⟨g, j * 2, none⟩) (n - j) (cap - j)) := fun v hv => by
            rw [hv]
            unfold sliced
            rw [if_neg (by have := HC.out; omega)]
            simp [Addr.add]
            omega
          go_wp2_with (first
            | (have qq := t0; refine from_lawP _ rfl (.tmp 26) (.tmp 27) rfl (some ⟨g, 0, none⟩) n cap j rfl rfl (by omega) ?_; intro v9 HV9; obtain ⟨jj, hjj⟩ : ∃ z, z = j * 2 := ⟨_, rfl⟩; obtain ⟨nj, hnj⟩ : ∃ z, z = n - j := ⟨_, rfl⟩; obtain ⟨cj, hcj⟩ : ∃ z, z = cap - j := ⟨_, rfl⟩; have hv := VV.out v9 HV9.out; rw [← hjj, ← hnj, ← hcj] at hv; have JJ : Hid (jj = j * 2) := hjj; have NJ : Hid (nj = n - j) := hnj; clear hjj hnj hcj HV9 VV t0; subst hv))
          have CP0 : Hid (Cp g L w (wr.drewN nq) j (j + 0) (j + 1)) := ⟨L, HR1.out, rfl, by rw [dn_yes HJ.out HX.out (by rw [XY.out]; exact HY.out), HD.out], rfl, by omega, Ch.of_below HB.out⟩
          have N1 : Hid (1 ≤ nj) := by have := NJ.out; show _ ≤ _; omega
          clear HR1
          go_loopw [3, 5] (fun kv qv wq => ∃ k k1 k2 : Nat, Hid (k2 = k1 + 1) ∧ k2 ≤ nj ∧ kv = .int .i64 k ∧ qv = .int .i64 k2 ∧ Hid (Cp g L w wq k (j + k1) (j + k2))) (fun _ qv _ => nj - (intOf qv).toNat)
          case atStart => exact ⟨j, 0, 1, rfl, N1.out, rfl, by go_num, CP0⟩
          case round =>
            clear CP0 HB ji jw
            obtain ⟨k, k1, k2, HK, hk2, rfl, rfl, HCP⟩ := hrel
            have n9 : (nj : Int) ≤ 100000 := by have := NJ.out; omega
            have a0 : (0 : Int) ≤ (k2 : Int) := by omega
            have a1 : (0 : Int) ≤ (k1 : Int) := by omega
            have a2 : (0 : Int) ≤ (k : Int) := by omega
            by_cases hl2 : k2 < nj
            · have b0 : (k2 : Int) < (nj : Int) := by omega
              have b1 : (k1 : Int) < (nj : Int) := by have := HK.out; omega
              have kw : IntKind.i64.wrap ((k2 : Int) - 1) = (k1 : Int) := by have := HK.out; have := NJ.out; rw [IntKind.wrap_i64]; omega
              obtain ⟨R, hr, hlen, htk, hdr, hkp, hch⟩ := HCP.out
              obtain ⟨u, hu⟩ : ∃ u, L[j + k2]? = some u := ⟨_, List.getElem?_eq_getElem (by have := NN.out; have := NJ.out; omega)⟩
              obtain ⟨v, hv⟩ : ∃ v, L[j + k1]? = some v := ⟨_, List.getElem?_eq_getElem (by have := NN.out; have := NJ.out; omega)⟩
              have HU : Hid (L[j + k2]? = some u) := hu
              have HV : Hid (L[j + k1]? = some v) := hv
              have RU : Hid (R[j + k2]? = some u) := drop_at (by have e := HK.out; rw [e, ← Nat.add_assoc]; exact drop_next hdr) hu
              have RV : Hid (R[j + k1]? = some v) := drop_at hdr hv
              have nu := two (hr _ u RU.out)
              have nv := two (hr _ v RV.out)
              rw [show (j + k2) * 2 = jj + k2 * 2 by have := JJ.out; omega] at nu
              rw [show (j + k1) * 2 = jj + k1 * 2 by have := JJ.out; omega] at nv
              have HR2 : Hid (Rl wr g R) := hr
              have HL : Hid (R.length = L.length) := hlen
              have HT : Hid (R.take k = dn L (j + k2)) := htk
              have HDr : Hid (R.drop (j + k1) = L.drop (j + k1)) := hdr
              have HKP : Hid (k ≤ j + k1) := hkp
              have HCh : Hid (Ch (fun k => k = g) w wr) := hch
              have gd : Try.prog.eqGuardType Try.prog.depth 31 = false := by kernel_rfl
              clear hr hlen htk hdr hkp hch hu hv HCP
              by_cases huv : u = v
              · have eq : ∀ W : World, (Op.equalIn 10000 31 (.agg #[.int .i64 u.1, .int .i64 u.2]) (.agg #[.int .i64 v.1, .int .i64 v.2])).run Try.prog W = .ok true W := fun W => (run_equal u v W).trans (by rw [decide_eq_true huv])
                have UV : Hid (u = v) := huv
                clear huv
                go_wp2
                go_quiet (fail)
                clear eq nu nv
                go_wp2
                go_roundw
                case rel =>
                  refine ⟨k, k2, k2 + 1, rfl, by omega, rfl, by go_num, R, HR2.out.heap rfl, HL.out, ?_, ?_, by have := HKP.out; have := HK.out; omega, HCh.out.trans (Ch.of_below (below_dr (Below.refl _ _) _))⟩
                  · rw [HT.out, show j + (k2 + 1) = (j + k2) + 1 by omega, dn_yes (m := j + k1) (by have := HK.out; omega) HU.out (by rw [UV.out]; exact HV.out)]
                  · rw [show j + k2 = (j + k1) + 1 by have := HK.out; omega]; exact drop_next HDr.out
                case measure => simp [intOf]; omega
              · have eq : ∀ W : World, (Op.equalIn 10000 31 (.agg #[.int .i64 u.1, .int .i64 u.2]) (.agg #[.int .i64 v.1, .int .i64 v.2])).run Try.prog W = .ok false W := fun W => (run_equal u v W).trans (by rw [decide_eq_false huv])
                have UV : Hid (¬ u = v) := huv
                have b2 : (k : Int) < (n : Int) := by have := HKP.out; have := HK.out; have := NJ.out; omega
                have kk : IntKind.i64.wrap ((k : Int) + 1) = ((k + 1 : Nat) : Int) := by have := b2; rw [IntKind.wrap_i64]; omega
                clear huv
                go_wp2
                go_quiet (fail)
                obtain ⟨y1, hy1⟩ : ∃ x, x = wr.drewN nq := ⟨_, rfl⟩
                rw [← hy1]
                have HR3 : Hid (Rl y1 g R) := by rw [hy1]; exact HR2.out.heap rfl
                have HCh : Hid (Ch (fun k => k = g) w y1) := by rw [hy1]; exact HCh.out.trans (Ch.of_below (below_dr (Below.refl _ _) _))
                have nu := two (HR3.out _ u RU.out)
                rw [show (j + k2) * 2 = jj + k2 * 2 by have := JJ.out; omega] at nu
                clear hy1 eq nv HR2
                have KR : Hid (k < R.length) := by have := HL.out; have := NN.out; have := HKP.out; have := HK.out; have := NJ.out; show _ < _; omega
                have t0 : (0 : Nat) = 0 := rfl
                go_wp2_with (first
                  | (have qq := t0; (with_reducible refine at_store ?_); refine store_lawC _ (pc u) g (k * 2) rfl rfl (HR3.out k _ (List.getElem?_eq_getElem KR.out)).2 size_place (pc_one u) ?_; intro w5 e5 _ _ _; have HR : Hid (Rl w5 g (R.set k u)) := (by rw [e5.out]; exact HR3.out.put k u KR.out); have HCh : Hid (Ch (fun k => k = g) w w5) := HCh.out.trans (by rw [e5.out]; exact Ch.of_wrt (wrt_cells y1 g (k * 2) 2 (pc u) rfl) rfl); clear e5 t0))
                go_roundw
                case rel =>
                  refine ⟨k + 1, k2, k2 + 1, rfl, by omega, by go_num, by go_num, R.set k u, HR.out, by rw [List.length_set]; exact HL.out, ?_, ?_, by have := HKP.out; have := HK.out; omega, HCh.out⟩
                  · rw [take_set u KR.out, HT.out, show j + (k2 + 1) = (j + k2) + 1 by omega, dn_no (m := j + k1) (by have := HK.out; omega) HU.out HV.out UV.out]
                  · rw [drop_set u (by have := HKP.out; have := HK.out; omega), show j + k2 = (j + k1) + 1 by have := HK.out; omega]; exact drop_next HDr.out
                case measure => simp [intOf]; omega
            · have ek : k2 = nj := by omega
              subst ek
              obtain ⟨R, hr, hlen, htk, hdr, hkp, hch⟩ := HCP.out
              have HR2 : Hid (Rl wr g R) := hr
              have HL : Hid (R.length = L.length) := hlen
              have HT : Hid (R.take k = dn L n) := by show _ = _; rw [htk]; congr 1; have := NJ.out; omega
              have HCh : Hid (Ch (fun k => k = g) w wr) := hch
              have kn : k ≤ n := by have := HK.out; have := NJ.out; omega
              have LI : Hid ((R.take k).length = k) := by show _ = _; rw [List.length_take]; have := NN.out; omega
              clear hr hlen htk hdr hkp hch HCP
              have t0 : (0 : Nat) = 0 := rfl
              have n1 : ¬ (k2 : Int) < (k2 : Int) := by omega
              go_wp2_with (first
                | (have qq := t2; refine to_lawP _ rfl (.tmp 57) (.tmp 58) rfl g n cap k rfl rfl (by have := HC.out; omega) ?_; clear t2)
                | (have qq := t1; refine clear_lawP _ rfl (.tmp 56) rfl g n cap k R v9 rfl HV9 HR2.out (by have := HL.out; have := NN.out; omega) kn HC.out ?_; intro w2 R2 C2; have HR5 : Hid (Rl w2 g (R.take k)) := R2; have HCh : Hid (Ch (fun k => k = g) w w2) := HCh.out.trans C2; clear R2 C2 t1; have t2 : (0 : Nat) = 0 := rfl)
                | (have qq := t0; refine from_lawP _ rfl (.tmp 54) (.tmp 55) rfl (some ⟨g, 0, none⟩) n cap k rfl rfl kn ?_; intro v9 HV9; clear t0; have t1 : (0 : Nat) = 0 := rfl))
              go_ret
              exact ⟨R.take k, by rw [LI.out]; rfl, HT.out, HR5.out, HCh.out⟩
        · have eq : ∀ W : World, (Op.equalIn 10000 31 (.agg #[.int .i64 x.1, .int .i64 x.2]) (.agg #[.int .i64 y.1, .int .i64 y.2])).run Try.prog W = .ok false W := fun W => (run_equal x y W).trans (by rw [decide_eq_false hxy])
          have gd : Try.prog.eqGuardType Try.prog.depth 31 = false := by kernel_rfl
          have XY : Hid (¬ x = y) := hxy
          clear hxy
          go_wp2
          go_quiet (fail)
          clear eq nx ny
          go_wp2
          go_roundw
          case rel =>
            refine ⟨j, j + 1, rfl, by omega, by go_num, ?_, below_dr HB.out _⟩
            show _ = _
            rw [dn_no HJ.out HX.out HY.out XY.out, HD.out, List.take_add_one, HX.out]
            rfl
          case measure => simp [intOf]; omega
      · have ej : j = n := by omega
        subst ej
        have n1 : ¬ (j : Int) < (j : Int) := by omega
        go_wp2
        go_ret
        exact ⟨L, by rw [← NN.out]; rfl, by rw [HD.out, NN.out, List.take_length], HR.out.below HB.out, Ch.of_below HB.out⟩
end Go.Proofs.Ytedmmpognhpbdaa.pm
