/- What the reference's Hex answers. No claim of its own. -/
import Derived.Test.YtocihlnmajkceaaDoorUnhexes
namespace Go.Proofs.YtocihlnmajkceaaDoor
open Go.RowKit Go.PlainAid

def digS : ByteArray := ⟨#[48, 49, 50, 51, 52, 53, 54, 55, 56, 57, 97, 98, 99, 100, 101, 102]⟩
theorem digS_size : digS.size = 16 := rfl
theorem digS_all : ∀ k : Fin 16, digS.extract k.val (k.val + 1) = strOfNums [hd (k.val : Int)] := by decide
theorem digS_cut (x : Int) (h : 0 ≤ x ∧ x < 16) : (ByteArray.mk #[48, 49, 50, 51, 52, 53, 54, 55, 56, 57, 97, 98, 99, 100, 101, 102]).extract x.toNat (x + 1).toNat = strOfNums [hd x] := by
  obtain ⟨n, rfl⟩ : ∃ n : Nat, x = n := ⟨x.toNat, by omega⟩
  have := digS_all ⟨n, by omega⟩
  rw [show ((n : Int) + 1).toNat = n + 1 by omega, Int.toNat_natCast]
  exact this
theorem str_app (A B : List Int) : strOfNums A ++ strOfNums B = strOfNums (A ++ B) := by
  unfold strOfNums
  rw [ByteArray.mk_append_mk, List.map_append]

theorem run_digit (x : Int) (h : 0 ≤ x ∧ x < 16) : ∀ w : World, (Instr.slice 9 (.string (ByteArray.mk #[48, 49, 50, 51, 52, 53, 54, 55, 56, 57, 97, 98, 99, 100, 101, 102])) (some (.int .u8 x)) (some (.int .u8 (x + 1))) none).run Tryd.prog w = .ok (.string (strOfNums [hd x])) w := by
  intro w
  rw [run_slice_string w 9 _ .u8 .u8 x (x + 1) Tryd.underlying9 h.1 (by omega) (by show x + 1 ≤ 16; omega), digS_cut x h]
set_option maxHeartbeats 4000000 in
theorem rhex_any (v : Value) (xs : List Int) (w : World) (hb : Byt w v xs) (hl : xs.length ≤ 1048576) :
    Calls Tryd.prog 25 #[v] w fun e w' => e = .returned (.string (strOfNums (hexs xs))) ∧ ∃ n, w' = w.drewN n := by
  obtain ⟨ao, cap, rfl, h1, h2, h3, -, h5⟩ := hb
  have H5 : Hid (0 < xs.length → ∃ b off, ao = some ⟨b, off, none⟩ ∧ ∀ t, t < xs.length → w.cell? ⟨b, off + t, none⟩ = some (.int .u8 (gb xs t))) := h5
  have HA : Hid (AllB xs) := h3
  clear h5 h3
  go_enter Tryd.func25, Tryd.ntmps25
  go_wp2
  go_loopw [4, 5] (fun t i wr => ∃ k n : Nat, k ≤ xs.length ∧ i = .int .i64 k ∧ t = .string (strOfNums (hexs (xs.take k))) ∧ wr = w.drewN n) (fun _ i _ => xs.length - (intOf i).toNat)
  case atStart => exact ⟨0, 0, Nat.zero_le _, rfl, rfl, rfl⟩
  case round =>
    obtain ⟨k, n, hk, rfl, rfl, rfl⟩ := hrel
    by_cases hlt' : k < xs.length
    · obtain ⟨b, off, rfl, hca⟩ := H5.out (by omega)
      have c0 := hca k hlt'
      clear hca
      obtain ⟨x0, x1⟩ := HA.out k
      have b1 : gb xs k / 16 < 16 := by omega
      have b2 : gb xs k % 16 < 16 := by omega
      have b3 : 0 ≤ gb xs k / 16 := by omega
      have b4 : 0 ≤ gb xs k % 16 := by omega
      have lk : (k : Int) < (xs.length : Int) := by omega
      have w1 : IntKind.u8.wrap (gb xs k / 16 + 1) = gb xs k / 16 + 1 := by rw [IntKind.wrap_u8']; omega
      have w2 : IntKind.u8.wrap (gb xs k % 16 + 1) = gb xs k % 16 + 1 := by rw [IntKind.wrap_u8']; omega
      have t1 : IntKind.u8.wrap ((gb xs k).tdiv 16) = gb xs k / 16 := by rw [Int.tdiv_eq_ediv_of_nonneg x0, IntKind.wrap_u8']; omega
      have t2 : IntKind.u8.wrap ((gb xs k).tmod 16) = gb xs k % 16 := by rw [Int.tmod_eq_emod_of_nonneg x0, IntKind.wrap_u8']; omega
      have b5 : gb xs k / 16 + 1 ≤ 16 := by omega
      have b6 : gb xs k % 16 + 1 ≤ 16 := by omega
      have q1 := run_digit (gb xs k / 16) ⟨b3, b1⟩
      have q2 := run_digit (gb xs k % 16) ⟨b4, b2⟩
      have hlen : (hexs (xs.take k)).length = 2 * k := by rw [hexs_len, List.length_take]; omega
      have z1 : ((strOfNums (hexs (xs.take k))).size + (strOfNums [hd (gb xs k / 16)]).size > 9223372036854775807) = False := by
        rw [strOfNums_size, strOfNums_size, hlen]; simp; omega
      have z2 : ((strOfNums (hexs (xs.take k) ++ [hd (gb xs k / 16)])).size + (strOfNums [hd (gb xs k % 16)]).size > 9223372036854775807) = False := by
        rw [strOfNums_size, strOfNums_size, List.length_append, hlen]; simp; omega
      have hap := str_app
      have SN : Hid (hexs (xs.take (k + 1)) = hexs (xs.take k) ++ [hd (gb xs k / 16), hd (gb xs k % 16)]) := hexs_snoc xs k hlt'
      clear hlen
      go_wp2
      go_quiet (fail)
      go_wp2
      go_roundw
      case rel => exact ⟨k + 1, n + nq, by omega, by go_num, by rw [SN.out], rfl⟩
      case measure => simp [intOf]; omega
    · have hks : k = xs.length := by omega
      subst hks
      rw [List.take_length]
      go_wp2
      go_ret
      exact ⟨rfl, n, rfl⟩
end Go.Proofs.YtocihlnmajkceaaDoor
