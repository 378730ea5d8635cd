/- The reference's And, of the call's own; one page of a row is written. No claim of its own. -/
import Derived.Test.YtahfcpdekjdceaaDoorPackK
import Derived.Test.YtahfcpdekjdceaaDoorPackB
namespace Go.Proofs.YtahfcpdekjdceaaDoor.ck
open Go.RowKit Go.Proofs.YtahfcpdekjdceaaDoor.fa Go.Proofs.YtahfcpdekjdceaaDoor.he Go.Proofs.YtahfcpdekjdceaaDoor.pa
set_option maxRecDepth 20000

set_option maxHeartbeats 2000000 in
theorem rand_own (va vb : Value) (xs ys : List Int) (w : World) (ha : Byt w va xs) (hb : Byt w vb ys) (hl : xs.length = ys.length) (hmax : xs.length ≤ 1048576) :
    Calls Tryd.prog 18 #[va, vb] w fun e w' => ∃ v, e = .returned v ∧ Own w.heap.size w' v (andl xs ys) ∧ Below w.heap.size w w' := by
  obtain ⟨ao, ca, rfl, ha1, ha2, ha3, -, ha5⟩ := ha
  obtain ⟨bo, cb, rfl, hb1, hb2, hb3, -, hb5⟩ := hb
  have HL : Hid (xs.length = ys.length) := hl
  have HA5 : Hid (0 < xs.length → ∃ b off, ao = some ⟨b, off, none⟩ ∧ ∀ t, t < xs.length → w.cell? ⟨b, off + t, none⟩ = some (.int .u8 (gb xs t))) := ha5
  have HB5 : Hid (0 < xs.length → ∃ b off, bo = some ⟨b, off, none⟩ ∧ ∀ t, t < xs.length → w.cell? ⟨b, off + t, none⟩ = some (.int .u8 (gb ys t))) := by
    rw [hl]; exact hb5
  have HA : Hid (AllB xs) := ha3
  have HB : Hid (AllB ys) := hb3
  rw [← hl] at hb1 ⊢
  clear hb5 ha5 ha3 hb3 hl
  have HZ : Hid ((andl xs ys).length = xs.length) := andl_len xs ys
  go_enter Tryd.func18, Tryd.ntmps18
  go_wp2
  go_loopw [5, 6] (fun v i wr => ∃ k : Nat, k ≤ xs.length ∧ i = .int .i64 k ∧ Own w.heap.size wr v ((andl xs ys).take k) ∧ Below w.heap.size w wr) (fun _ i _ => xs.length - (intOf i).toNat)
  case atStart => exact ⟨0, Nat.zero_le _, rfl, Own.empty w (Nat.le_refl _), (Below.refl _ _).alloc (Nat.le_refl _) _⟩
  case round =>
    obtain ⟨k, hk, rfl, hown, hbel⟩ := hrel
    have hsz := hbel.size
    by_cases hlt' : k < xs.length
    · obtain ⟨b, off, rfl, hca⟩ := HA5.out (by omega)
      obtain ⟨b', off', rfl, hcb⟩ := HB5.out (by omega)
      have n1 := World.block_lt_of_cell? w _ (hca k hlt')
      have n2 := World.block_lt_of_cell? w _ (hcb k hlt')
      have c1 : wr.cell? ⟨b, off + k, none⟩ = some (.int .u8 (gb xs k)) := (hbel.cell n1).trans (hca k hlt')
      have c2 : wr.cell? ⟨b', off' + k, none⟩ = some (.int .u8 (gb ys k)) := (hbel.cell n2).trans (hcb k hlt')
      have lk : (k : Int) < (xs.length : Int) := by omega
      have lk0 : (0 : Int) ≤ (k : Int) := by omega
      have a1 := HA.out k
      have a2 := HB.out k
      have hx : bits .and .u8 (gb xs k) (gb ys k) = gb (andl xs ys) k := by rw [andl_gb xs ys k hlt']; exact u8_and _ _ a1.1 (by omega) a2.1 (by omega)
      have SN : Hid ((andl xs ys).take (k + 1) = (andl xs ys).take k ++ [gb (andl xs ys) k]) := andl_take xs ys k hlt'
      have HLEN : Hid (((andl xs ys).take k).length ≤ 1099511627776) := by show _ ≤ _; simp; omega
      clear hca hcb a1 a2
      go_wp2
      go_region_held3 (fun w' => w'.cell? ⟨b, off + k, none⟩ = some (.int .u8 (gb xs k)) ∧ w'.cell? ⟨b', off' + k, none⟩ = some (.int .u8 (gb ys k)))
        (first
          | go_keep
          | (exact ⟨by rw [hbel'.cell n1]; simpa using c1, by rw [hbel'.cell n2]; simpa using c2⟩))
        ((refine step_push1 wr.drew rfl (.tmp 14) (.tmp 24) rfl w.heap.size (by simpa using hsz) _ _ (gb (andl xs ys) k) rfl rfl hown HLEN.out ?_; intro v2 w2 hown' hbel'))
      go_wp2
      go_roundw
      case rel => exact ⟨k + 1, by omega, by go_num, by rw [SN.out]; exact hown', hbel.drew.trans hbel'⟩
      case measure => simp [intOf]; omega
    · have hks : k = xs.length := by omega
      have e : Hid ((andl xs ys).take k = andl xs ys) := List.take_of_length_le (by rw [HZ.out]; omega)
      rw [e.out] at hown
      go_wp2
      go_ret
      exact ⟨_, rfl, hown, hbel⟩
/-- the row's block, its cells -/
theorem ownr_vr {B : Nat} {w : World} {v : Value} {vs : List Value} (h : OwnR B w v vs) (hp : 0 < vs.length) : ∃ g cap, v = .slice (some ⟨g, 0, none⟩) vs.length cap ∧ B ≤ g ∧ Vr w g vs ∧ v.ownBlock = some g := by
  rcases h.2 with ⟨rfl, hn⟩ | ⟨g, cap, cur, rfl, hg, hb, hc, hm, hs, ht⟩
  · omega
  · have hcell : ∀ t, t < vs.length → w.cell? ⟨g, t, none⟩ = vs[t]? := fun t ht' => h.cellAt t (by omega)
    refine ⟨g, cap, rfl, hg, ⟨fun j u hj => ?_, fun j hj => ⟨?_, ?_⟩⟩, rfl⟩
    · have hjl : j < vs.length := (List.getElem?_eq_some_iff.1 hj).1
      rw [Nat.zero_add, hcell j hjl]; exact hj
    · rw [Nat.zero_add, hcell j hj]
      simp [hj]
    · rw [Nat.zero_add]; exact h.frozenAt j
theorem grown_set (w : World) (g j : Nat) (u : Value) : w.grownBy (w.setCell ⟨g, j, none⟩ u) (some g) := by
  have hb : Below g w (w.setCell ⟨g, j, none⟩ u) := (Below.refl g w).setCell (p := ⟨g, j, none⟩) (Nat.le_refl _) _
  exact ⟨hb.os, hb.tape, hb.output, hb.size, fun k _ hk => Below.heap_setCell w ⟨g, j, none⟩ u k (fun e => hk (by rw [e]))⟩
/-- what is of the call's own lasts where a cell of a row of slices is written -/
theorem own_row_set {B B' : Nat} {w : World} {u v z : Value} {x : List Int} {vs : List Value} {g j : Nat} (h : Own B w u x) (ho : OwnR B' w v vs) (hg : v.ownBlock = some g) : Own B (w.setCell ⟨g, j, none⟩ z) u x := by
  have q := own_apart h ho (by decide)
  rw [hg] at q
  exact World.ownsRow.kept h (grown_set w g j z) q
end Go.Proofs.YtahfcpdekjdceaaDoor.ck
