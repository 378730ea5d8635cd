/- Texts put together (a claim holds few files). No claim of its own. -/
import Derived.Test.YtbkaecjkgjkheaaGreatDoorPackA
import Derived.Deep.RegionWith
import Derived.Deep.RegionHeld3
import Derived.Deep.DeepHandedRow
import Derived.Lib.LaidTab
import Derived.Deep.Matrix
/- What AES puts for bytes, as numbers: the two tables, the definition by inverses. No claim of its own. -/
namespace Go.Proofs.YtbkaecjkgjkheaaGreatDoor
open Go.RowKit
set_option maxRecDepth 20000

/-- what is put for each byte -/
def ptab : List Int := [99, 124, 119, 123, 242, 107, 111, 197, 48, 1, 103, 43, 254, 215, 171, 118, 202, 130, 201, 125, 250, 89, 71, 240, 173, 212, 162, 175, 156, 164, 114, 192,
  183, 253, 147, 38, 54, 63, 247, 204, 52, 165, 229, 241, 113, 216, 49, 21, 4, 199, 35, 195, 24, 150, 5, 154, 7, 18, 128, 226, 235, 39, 178, 117,
  9, 131, 44, 26, 27, 110, 90, 160, 82, 59, 214, 179, 41, 227, 47, 132, 83, 209, 0, 237, 32, 252, 177, 91, 106, 203, 190, 57, 74, 76, 88, 207,
  208, 239, 170, 251, 67, 77, 51, 133, 69, 249, 2, 127, 80, 60, 159, 168, 81, 163, 64, 143, 146, 157, 56, 245, 188, 182, 218, 33, 16, 255, 243, 210,
  205, 12, 19, 236, 95, 151, 68, 23, 196, 167, 126, 61, 100, 93, 25, 115, 96, 129, 79, 220, 34, 42, 144, 136, 70, 238, 184, 20, 222, 94, 11, 219,
  224, 50, 58, 10, 73, 6, 36, 92, 194, 211, 172, 98, 145, 149, 228, 121, 231, 200, 55, 109, 141, 213, 78, 169, 108, 86, 244, 234, 101, 122, 174, 8,
  186, 120, 37, 46, 28, 166, 180, 198, 232, 221, 116, 31, 75, 189, 139, 138, 112, 62, 181, 102, 72, 3, 246, 14, 97, 53, 87, 185, 134, 193, 29, 158,
  225, 248, 152, 17, 105, 217, 142, 148, 155, 30, 135, 233, 206, 85, 40, 223, 140, 161, 137, 13, 191, 230, 66, 104, 65, 153, 45, 15, 176, 84, 187, 22]
/-- the bytes for which each is put -/
def btab : List Int := [82, 9, 106, 213, 48, 54, 165, 56, 191, 64, 163, 158, 129, 243, 215, 251, 124, 227, 57, 130, 155, 47, 255, 135, 52, 142, 67, 68, 196, 222, 233, 203,
  84, 123, 148, 50, 166, 194, 35, 61, 238, 76, 149, 11, 66, 250, 195, 78, 8, 46, 161, 102, 40, 217, 36, 178, 118, 91, 162, 73, 109, 139, 209, 37,
  114, 248, 246, 100, 134, 104, 152, 22, 212, 164, 92, 204, 93, 101, 182, 146, 108, 112, 72, 80, 253, 237, 185, 218, 94, 21, 70, 87, 167, 141, 157, 132,
  144, 216, 171, 0, 140, 188, 211, 10, 247, 228, 88, 5, 184, 179, 69, 6, 208, 44, 30, 143, 202, 63, 15, 2, 193, 175, 189, 3, 1, 19, 138, 107,
  58, 145, 17, 65, 79, 103, 220, 234, 151, 242, 207, 206, 240, 180, 230, 115, 150, 172, 116, 34, 231, 173, 53, 133, 226, 249, 55, 232, 28, 117, 223, 110,
  71, 241, 26, 113, 29, 41, 197, 137, 111, 183, 98, 14, 170, 24, 190, 27, 252, 86, 62, 75, 198, 210, 121, 32, 154, 219, 192, 254, 120, 205, 90, 244,
  31, 221, 168, 51, 136, 7, 199, 49, 177, 18, 16, 89, 39, 128, 236, 95, 96, 81, 127, 169, 25, 181, 74, 13, 45, 229, 122, 159, 147, 201, 156, 239,
  160, 224, 59, 77, 174, 42, 245, 176, 200, 235, 187, 60, 131, 83, 153, 97, 23, 43, 4, 126, 186, 119, 214, 38, 225, 105, 20, 99, 85, 33, 12, 125]
/-- the inverses -/
def ivl : List Nat := [0, 1, 141, 246, 203, 82, 123, 209, 232, 79, 41, 192, 176, 225, 229, 199, 116, 180, 170, 75, 153, 43, 96, 95, 88, 63, 253, 204, 255, 64, 238, 178,
  58, 110, 90, 241, 85, 77, 168, 201, 193, 10, 152, 21, 48, 68, 162, 194, 44, 69, 146, 108, 243, 57, 102, 66, 242, 53, 32, 111, 119, 187, 89, 25,
  29, 254, 55, 103, 45, 49, 245, 105, 167, 100, 171, 19, 84, 37, 233, 9, 237, 92, 5, 202, 76, 36, 135, 191, 24, 62, 34, 240, 81, 236, 97, 23,
  22, 94, 175, 211, 73, 166, 54, 67, 244, 71, 145, 223, 51, 147, 33, 59, 121, 183, 151, 133, 16, 181, 186, 60, 182, 112, 208, 6, 161, 250, 129, 130,
  131, 126, 127, 128, 150, 115, 190, 86, 155, 158, 149, 217, 247, 2, 185, 164, 222, 106, 50, 109, 216, 138, 132, 114, 42, 20, 159, 136, 249, 220, 137, 154,
  251, 124, 46, 195, 143, 184, 101, 72, 38, 200, 18, 74, 206, 231, 210, 98, 12, 224, 31, 239, 17, 117, 120, 113, 165, 142, 118, 61, 189, 188, 134, 87,
  11, 40, 47, 163, 218, 212, 228, 15, 169, 39, 83, 4, 27, 252, 172, 230, 122, 7, 174, 99, 197, 219, 226, 234, 148, 139, 196, 213, 157, 248, 144, 107,
  177, 13, 214, 235, 198, 14, 207, 173, 8, 78, 215, 227, 93, 80, 30, 179, 91, 35, 56, 52, 104, 70, 3, 140, 221, 156, 125, 160, 205, 26, 65, 28]
theorem ptab_len : ptab.length = 256 := by decide +kernel
theorem btab_len : btab.length = 256 := by decide +kernel
/-- what is put for a byte -/
def sb (a : Nat) : Nat := (gb ptab a).toNat
/-- the byte for which it is put -/
def sk (a : Nat) : Nat := (gb btab a).toNat
theorem ptab_all : ∀ a, a < 256 → gb ptab a = (sb a : Int) ∧ sb a < 256 := by decide +kernel
theorem btab_all : ∀ a, a < 256 → gb btab a = (sk a : Int) ∧ sk a < 256 := by decide +kernel
theorem gb_p (a : Nat) (h : a < 256) : gb ptab a = (sb a : Int) := (ptab_all a h).1
theorem gb_b (a : Nat) (h : a < 256) : gb btab a = (sk a : Int) := (btab_all a h).1
theorem sb_lt (a : Nat) (h : a < 256) : sb a < 256 := (ptab_all a h).2
theorem sk_lt (a : Nat) (h : a < 256) : sk a < 256 := (btab_all a h).2
theorem sk_sb : ∀ a, a < 256 → sk (sb a) = a := by decide +kernel
theorem sb_sk : ∀ a, a < 256 → sb (sk a) = a := by decide +kernel
theorem sb_ne : ∀ a, a < 256 → sb a ≠ a := by decide +kernel

theorem ivl_one : ∀ a, a < 256 → ivl.getD a 0 < 256 ∧ (a ≠ 0 → gm a (ivl.getD a 0) = 1) := by decide +kernel
theorem ivl_eq (a : Nat) (h : a < 256) : iv a = ivl.getD a 0 := by
  by_cases h0 : a = 0
  · subst h0; rw [iv_zero]; decide
  · exact (iv_only a _ h (ivl_one a h).1 ((ivl_one a h).2 h0)).symm
/-- a bit, the place modulo 8 -/
def b8 (n i : Nat) : Nat := hv n (i % 8) % 2
/-- bit i of what is put for the byte whose inverse is v -/
def sbt (v i : Nat) : Nat := b8 v i ^^^ b8 v (i + 4) ^^^ b8 v (i + 5) ^^^ b8 v (i + 6) ^^^ b8 v (i + 7) ^^^ b8 99 i
/-- the first k of them -/
def so (v : Nat) : Nat → Nat
  | 0 => 0
  | k + 1 => so v k + 2 ^ k * sbt v k
theorem so_ivl : ∀ a, a < 256 → so (ivl.getD a 0) 8 = sb a := by decide +kernel
theorem so_iv (a : Nat) (h : a < 256) : so (iv a) 8 = sb a := by rw [ivl_eq a h, so_ivl a h]
theorem b8_lt (n i : Nat) : b8 n i < 2 := Nat.mod_lt _ (by omega)
theorem xor2 (a b : Nat) (ha : a < 2) (hb : b < 2) : a ^^^ b < 2 := Nat.xor_lt_two_pow (n := 1) ha hb
theorem sbt_lt (v i : Nat) : sbt v i < 2 := xor2 _ _ (xor2 _ _ (xor2 _ _ (xor2 _ _ (xor2 _ _ (b8_lt _ _) (b8_lt _ _)) (b8_lt _ _)) (b8_lt _ _)) (b8_lt _ _)) (b8_lt _ _)
theorem so_lt (v k : Nat) : so v k < 2 ^ k := by
  induction k with
  | zero => simp [so]
  | succ k ih =>
    have h := sbt_lt v k
    have : 2 ^ k * sbt v k ≤ 2 ^ k * 1 := Nat.mul_le_mul_left _ (by omega)
    rw [so, Nat.pow_succ]; omega
end Go.Proofs.YtbkaecjkgjkheaaGreatDoor

/- What sbox's tables, Sub, Back, Subs, Backs answer. No claim of its own. -/
namespace Go.Proofs.YtbkaecjkgjkheaaGreatDoor
open Go.RowKit
set_option maxRecDepth 20000

/-- noughts -/
def z256 : List Int := List.replicate 256 0
theorem z256_len : z256.length = 256 := List.length_replicate
theorem z_arr256 : (Tryz.prog.info? 124).map (fun i => (i.zero, i.size)) = some (some (.agg (ints .u8 z256)), z256.length) := by kernel_rfl
theorem i_arr256 : (Tryz.prog.info? 124).map (·.size) = some 256 := by kernel_rfl

set_option maxRecDepth 100000 in
set_option maxHeartbeats 2000000 in
theorem puts_any (w : World) :
    Calls Tryz.prog 99 #[] w fun e w' => e = .returned (.agg (ints .u8 ptab)) ∧ Below w.heap.size w w' := by
  go_enter Tryz.func99, Tryz.ntmps99
  go_wp2_with (first
    | (refine new_lawF _ rfl 124 rfl .u8 z256 z_arr256 ?_; intro w1 A1 B1 s1)
    | (refine build_law _ rfl 124 _ rfl (.agg (ints .u8 ptab)) (by kernel_rfl) ?_)
    | (refine store_lawF _ rfl (.tmp 0) (.tmp 1) 124 rfl .u8 z256 ptab w.heap.size rfl rfl A1 256 i_arr256 z256_len ptab_len ?_; intro w2 A2 B2))
  refine bodyPost_ret (v := .agg (ints .u8 ptab)) (results_ar rfl _ _ w.heap.size 0 .u8 ptab rfl A2 256 5 Tryz.underlying124 i_arr256 ptab_len) rfl ⟨rfl, ?_⟩
  exact B1.trans B2

set_option maxRecDepth 100000 in
set_option maxHeartbeats 2000000 in
theorem backs_any (w : World) :
    Calls Tryz.prog 115 #[] w fun e w' => e = .returned (.agg (ints .u8 btab)) ∧ Below w.heap.size w w' := by
  go_enter Tryz.func115, Tryz.ntmps115
  go_wp2_with (first
    | (refine new_lawF _ rfl 124 rfl .u8 z256 z_arr256 ?_; intro w1 A1 B1 s1)
    | (refine build_law _ rfl 124 _ rfl (.agg (ints .u8 btab)) (by kernel_rfl) ?_)
    | (refine store_lawF _ rfl (.tmp 0) (.tmp 1) 124 rfl .u8 z256 btab w.heap.size rfl rfl A1 256 i_arr256 z256_len btab_len ?_; intro w2 A2 B2))
  refine bodyPost_ret (v := .agg (ints .u8 btab)) (results_ar rfl _ _ w.heap.size 0 .u8 btab rfl A2 256 5 Tryz.underlying124 i_arr256 btab_len) rfl ⟨rfl, ?_⟩
  exact B1.trans B2

/-- an element of a table of 256 -/
theorem idx256 {ops : Array Oper} {rest : List Oper} {o : Oper} {a : Act} {Q : Exit → Act → World → Prop} (w : World) (hg : o.guard = none) (x y : Operand) (hop : o.op = Op.index 124 x y) (xs : List Int) (i : Nat) (hx : a.eval x = .agg (ints .u8 xs)) (hy : a.eval y = .int .u8 i) (hl : xs.length = 256) (hi : i < 256)
    (q : Int) (hq : q = gb xs i) (hK : wpList Tryz.prog ops Q rest (a.put o.dst (.int .u8 q)) w) : wpList Tryz.prog ops Q (o :: rest) a w := by
  subst hq
  refine wpList_plain hg fun K hK' => ?_
  have e : (ints .u8 xs)[i]? = some (.int .u8 (gb xs i)) := by simp [ints, gb, List.getD, show i < xs.length by omega]
  have hu := Tryz.underlying124
  have hu2 := Tryz.underlying5
  have hsz : (ints .u8 xs).size = 256 := by simp [ints, hl]
  have hr : (Instr.index 124 (.agg (ints .u8 xs)) (.int .u8 i)).run Tryz.prog w = .ok (.int .u8 (gb xs i)) w := by
    simp [Instr.index, asIntOf, run_underlying hu, run_underlying hu2, Go.part, isAgg, e]
    intro h; omega
  unfold Oper.wp execOp
  simp only [hop, hx, hy, Sem.run_bind, Sem.run_pure, Result.andThen_ok, hr]
  exact hK' _ _ hK

/-- what a table has for each byte -/
def looked (tab xs : List Int) : List Int := xs.map fun x => gb tab x.toNat
theorem looked_len (tab xs : List Int) : (looked tab xs).length = xs.length := by simp [looked]
theorem looked_gb (tab xs : List Int) (k : Nat) (hk : k < xs.length) : gb (looked tab xs) k = gb tab (gb xs k).toNat := by
  simp only [looked, gb, List.getD, List.getElem?_map, List.getElem?_eq_getElem hk, Option.map_some, Option.getD_some]
theorem looked_all (tab xs : List Int) (h : AllB tab) : AllB (looked tab xs) := allB_mem fun x hx => by
  obtain ⟨y, _, rfl⟩ := List.mem_map.1 hx
  exact h _
/-- zs, filled as far as place k -/
def filled (zs : List Int) (k : Nat) : List Int := zs.take k ++ List.replicate (zs.length - k) 0
theorem filled_zero (zs : List Int) : filled zs 0 = List.replicate zs.length 0 := by simp [filled]
theorem filled_end (zs : List Int) : filled zs zs.length = zs := by simp [filled]
theorem filled_set (zs : List Int) (k : Nat) (h : k < zs.length) : (filled zs k).set k (gb zs k) = filled zs (k + 1) := by
  unfold filled
  obtain ⟨d, hd⟩ : ∃ d, zs.length - k = d + 1 := ⟨zs.length - k - 1, by omega⟩
  have e : zs.length - (k + 1) = d := by omega
  have hm : min k zs.length = k := by omega
  rw [hd, e, List.set_append_right _ _ (by simp; omega), List.take_succ_eq_append_getElem h, List.append_assoc]
  simp only [List.length_take, hm, Nat.sub_self, List.replicate_succ, List.set_cons_zero, gb, List.getD, List.getElem?_eq_getElem h, Option.getD_some, List.cons_append, List.nil_append]

set_option maxRecDepth 20000 in
set_option maxHeartbeats 4000000 in
theorem look_any (v : Value) (xs tab : List Int) (w : World) (hv : Byt w v xs) (ht : tab.length = 256) (hta : AllB tab) (hmax : xs.length ≤ 1048576) :
    Calls Tryz.prog 98 #[v, .agg (ints .u8 tab)] w fun e w' => ∃ v', e = .returned v' ∧ Byt w' v' (looked tab xs) ∧ Below w.heap.size w w' := by
  obtain ⟨ao, ca, rfl, ha1, ha2, ha3, -, ha5⟩ := hv
  have HA5 : Hid (0 < xs.length → ∃ b off, ao = some ⟨b, off, none⟩ ∧ ∀ t, t < xs.length → w.cell? ⟨b, off + t, none⟩ = some (.int .u8 (gb xs t))) := ha5
  have HA : Hid (AllB xs) := ha3
  have HT : Hid (tab.length = 256) := ht
  have HTA : Hid (AllB tab) := hta
  have HG : Hid (∀ k, k < xs.length → gb (looked tab xs) k = gb tab (gb xs k).toNat) := fun k hk => looked_gb tab xs k hk
  have HZ : Hid ((looked tab xs).length = xs.length) := looked_len tab xs
  have HZA : Hid (AllB (looked tab xs)) := looked_all tab xs hta
  generalize looked tab xs = zs at *
  clear ha5 ha3 ht hta
  go_enter Tryz.func98, Tryz.ntmps98
  go_wp2_with (first
    | (refine box_lawF _ rfl (.tmp 1) 124 rfl .u8 tab rfl ?_; intro w1 A1 B1 s1; have HA1 : Hid (Ar w1 w.heap.size 0 .u8 tab) := A1; clear A1)
    | (at_make; refine make_law _ rfl (.tmp 9) (.tmp 9) rfl w1.heap.size (Nat.le_refl _) _ xs.length rfl rfl rfl (by omega) ?_; intro w2 hown hbel hlt))
  generalize hg1 : w1.heap.size = g1 at *
  go_loopw [13] (fun i wr => ∃ k : Nat, k ≤ xs.length ∧ i = .int .i64 k ∧ OwnN g1 wr g1 xs.length (filled zs k) ∧ Below g1 w1 wr) (fun i _ => xs.length - (intOf i).toNat)
  case atStart => exact ⟨0, Nat.zero_le _, rfl, by rw [filled_zero, HZ.out]; exact hown, hbel⟩
  case round =>
    clear hown hbel
    obtain ⟨k, hk, rfl, hown, hbel⟩ := hrel
    have BW : Below w.heap.size w wr := B1.trans (hbel.mono (by omega))
    by_cases hlt' : k < xs.length
    · obtain ⟨b, off, rfl, hca⟩ := HA5.out (by omega)
      have n1 := World.block_lt_of_cell? w _ (hca k hlt')
      have c1 : wr.cell? ⟨b, off + k, none⟩ = some (.int .u8 (gb xs k)) := (BW.cell n1).trans (hca k hlt')
      obtain ⟨x, hx⟩ : ∃ x : Nat, gb xs k = (x : Int) := ⟨(gb xs k).toNat, by have := HA.out k; omega⟩
      have hx8 : x < 256 := by have := HA.out k; omega
      rw [hx] at c1
      have c2 := (HA1.out.below hbel s1).cell0 x (by rw [HT.out]; exact hx8)
      have lk : (k : Int) < (xs.length : Int) := by omega
      have lk0 : (0 : Int) ≤ (k : Int) := by omega
      have x0 : (0 : Int) ≤ (x : Int) := by omega
      have x1 : (x : Int) < 256 := by omega
      have c3 := hown.cell hlt'
      have c4 := hown.free k
      have hgz : gb zs k = gb tab x := by rw [HG.out k hlt', hx, Int.toNat_natCast]
      have hown' : Hid (OwnN g1 (wr.setCell ⟨g1, k, none⟩ (.int .u8 (gb tab x))) g1 xs.length (filled zs (k + 1))) := by
        have h := hown.set k (gb zs k)
        rw [filled_set _ k (by rw [HZ.out]; exact hlt'), hgz] at h
        exact h
      have hb' : Hid (Below g1 w1 (wr.setCell ⟨g1, k, none⟩ (.int .u8 (gb tab x)))) := hbel.setCell (Nat.le_refl _) _
      clear hca hx hgz hx8
      generalize gb tab x = y at *
      go_wp2
      go_roundw
      case rel => exact ⟨k + 1, by omega, by go_num, hown'.out, hb'.out⟩
      case measure => simp [intOf]; omega
    · have hks : k = xs.length := by omega
      subst hks
      have hown2 : OwnN g1 wr g1 xs.length zs := by
        have := hown; rw [← HZ.out, filled_end, HZ.out] at this; exact this
      go_wp2
      go_ret
      exact ⟨_, rfl, hown2.byt HZA.out, BW⟩
end Go.Proofs.YtbkaecjkgjkheaaGreatDoor

/- What octet's Fill and the reference's Fill answer: so many of any byte. No claim of its own. -/
namespace Go.Proofs.YtbkaecjkgjkheaaGreatDoor
open Go.RowKit
set_option maxRecDepth 20000

/-- n, taken as 0 if below and as m if above -/
def clamp (n m : Int) : Nat := (min (max n 0) m).toNat
theorem clamp_le (n m : Int) (h : 0 ≤ m) : ((clamp n m : Nat) : Int) ≤ m := by unfold clamp; omega

theorem within_any (n m : Int) (w : World) (hm : 0 ≤ m) :
    Calls Tryz.prog 54 #[.int .i64 n, .int .i64 m] w fun e w' => e = .returned (.int .i64 (clamp n m)) ∧ w' = w := by
  have hc : ((clamp n m : Nat) : Int) = min (max n 0) m := by unfold clamp; omega
  have HC : Hid (((clamp n m : Nat) : Int) = min (max n 0) m) := hc
  clear hc
  go_enter Tryz.func54, Tryz.ntmps54
  go_wp2
  all_goals
    go_ret
    exact ⟨ret_int (by rw [HC.out]; omega), rfl⟩

def fillAt (x : Int) (s k : Nat) : List Int := List.replicate k x ++ List.replicate (s - k) 0
theorem fillAt_set (x : Int) (s k : Nat) (h : k < s) : (fillAt x s k).set k x = fillAt x s (k + 1) := by
  unfold fillAt
  obtain ⟨d, hd⟩ : ∃ d, s - k = d + 1 := ⟨s - k - 1, by omega⟩
  have e : s - (k + 1) = d := by omega
  rw [hd, e, List.set_append_right _ _ (by simp)]
  simp only [List.length_replicate, Nat.sub_self, List.replicate_succ, List.set_cons_zero]
  rw [← List.replicate_succ, List.replicate_succ', List.append_assoc]; rfl
theorem fillAt_end (x : Int) (s : Nat) : fillAt x s s = List.replicate s x := by simp [fillAt]
theorem allB_replicate (x : Int) (n : Nat) (h : 0 ≤ x ∧ x ≤ 255) : AllB (List.replicate n x) := allB_mem fun y hy => by
  rw [(List.mem_replicate.1 hy).2]; exact h

set_option maxHeartbeats 1000000 in
theorem rfill_any (x n : Int) (w : World) (hx : 0 ≤ x ∧ x ≤ 255) :
    Calls Tryz.prog 49 #[.int .u8 x, .int .i64 n] w fun e w' => ∃ v, e = .returned v ∧ Byt w' v (List.replicate (clamp n 65536) x) ∧ Below w.heap.size w w' := by
  have hs : ((clamp n 65536 : Nat) : Int) = min (max n 0) 65536 := by unfold clamp; omega
  generalize hsd : clamp n 65536 = s at hs
  have HS : Hid ((s : Int) = min (max n 0) 65536) := hs
  have hs1 : s ≤ 65536 := by omega
  clear hsd hs
  go_enter Tryz.func49, Tryz.ntmps49
  go_wp2
  go_loopw [5, 6] (fun v i wr => ∃ k : Nat, k ≤ s ∧ i = .int .i64 k ∧ Own w.heap.size wr v (List.replicate k x) ∧ Below w.heap.size w wr) (fun _ i _ => s - (intOf i).toNat)
  case atStart => exact ⟨0, Nat.zero_le _, rfl, Own.empty w (Nat.le_refl _), (Below.refl _ _).alloc (Nat.le_refl _) _⟩
  case round =>
    obtain ⟨k, hk, rfl, hown, hbel⟩ := hrel
    have hsz := hbel.size
    by_cases hlt : k < s
    · have h1 : (k : Int) < n := by have := HS.out; omega
      have h2 : (k : Int) < 65536 := by omega
      go_wp2_with (at_builtin; refine push_law wr rfl (.tmp 17) (.tmp 19) rfl w.heap.size (by omega) _ _ x rfl rfl hown (by simp; omega) ?_; intro v' w1 hown' hbel')
      rw [← List.replicate_succ'] at hown'
      go_roundw
      case rel => exact ⟨k + 1, by omega, by go_num, hown', hbel.trans hbel'⟩
      case measure => simp [intOf]; omega
    · have hks : k = s := by omega
      subst hks
      by_cases h1 : (k : Int) < n
      · have h2 : ¬ (k : Int) < 65536 := by have := HS.out; omega
        go_wp2
        go_ret
        exact ⟨_, rfl, hown.byt (allB_replicate _ _ hx), hbel⟩
      · go_wp2
        go_ret
        exact ⟨_, rfl, hown.byt (allB_replicate _ _ hx), hbel⟩
end Go.Proofs.YtbkaecjkgjkheaaGreatDoor

/- What octet's Xor, Same and Invert and the reference's Xor and Invert answer. No claim of its own. -/
namespace Go.Proofs.YtbkaecjkgjkheaaGreatDoor
open Go.RowKit
set_option maxRecDepth 20000

/-- zs, filled as far as place k -/
def part (zs : List Int) (k : Nat) : List Int := zs.take k ++ List.replicate (zs.length - k) 0
theorem part_zero (zs : List Int) : part zs 0 = List.replicate zs.length 0 := by simp [part]
theorem part_end (zs : List Int) : part zs zs.length = zs := by simp [part]
theorem part_set (zs : List Int) (k : Nat) (h : k < zs.length) : (part zs k).set k (gb zs k) = part zs (k + 1) := by
  unfold part
  obtain ⟨d, hd⟩ : ∃ d, zs.length - k = d + 1 := ⟨zs.length - k - 1, by omega⟩
  have e : zs.length - (k + 1) = d := by omega
  have hm : min k zs.length = k := by omega
  rw [hd, e, List.set_append_right _ _ (by simp; omega), List.take_succ_eq_append_getElem h, List.append_assoc]
  simp only [List.length_take, hm, Nat.sub_self, List.replicate_succ, List.set_cons_zero, gb, List.getD, List.getElem?_eq_getElem h, Option.getD_some, List.cons_append, List.nil_append]

/-- two bytes, xored -/
def xr (a b : Int) : Int := ((a.toNat ^^^ b.toNat : Nat) : Int)
theorem xr_of (a b : Int) (ha : 0 ≤ a ∧ a ≤ 255) (hb : 0 ≤ b ∧ b ≤ 255) : bits .xor .u8 a b = xr a b := u8_xor a b ha.1 (by omega) hb.1 (by omega)
theorem xr_bd (a b : Int) (ha : 0 ≤ a ∧ a ≤ 255) (hb : 0 ≤ b ∧ b ≤ 255) : 0 ≤ xr a b ∧ xr a b ≤ 255 := by
  unfold xr
  have := Nat.xor_lt_two_pow (n := 8) (show a.toNat < 2 ^ 8 by omega) (show b.toNat < 2 ^ 8 by omega)
  omega
theorem xr_comm (a b : Int) : xr a b = xr b a := by unfold xr; rw [Nat.xor_comm]
theorem xr_back (a b : Int) (ha : 0 ≤ a) : xr (xr a b) b = a := by
  unfold xr
  rw [Int.toNat_natCast, Nat.xor_assoc, Nat.xor_self, Nat.xor_zero, Int.toNat_of_nonneg ha]
theorem xr_zero (a b : Int) (ha : 0 ≤ a) (hb : 0 ≤ b) : xr a b = 0 ↔ a = b := by
  unfold xr
  constructor
  · intro h
    have h1 : a.toNat ^^^ b.toNat = 0 := by omega
    have h2 : a.toNat = b.toNat := by
      have := congrArg (· ^^^ b.toNat) h1
      simpa [Nat.xor_assoc] using this
    omega
  · rintro rfl; simp

/-- two lists, xored byte by byte -/
def xorl (xs ys : List Int) : List Int := List.zipWith xr xs ys
theorem xorl_len (xs ys : List Int) (h : xs.length = ys.length) : (xorl xs ys).length = xs.length := by simp [xorl]; omega
theorem xorl_gb (xs ys : List Int) (h : xs.length = ys.length) (k : Nat) (hk : k < xs.length) : gb (xorl xs ys) k = xr (gb xs k) (gb ys k) := by
  simp [gb, xorl, List.getD, List.getElem?_zipWith, hk, show k < ys.length by omega]
theorem xorl_all (xs ys : List Int) (h : xs.length = ys.length) (ha : AllB xs) (hb : AllB ys) : AllB (xorl xs ys) := by
  intro k
  by_cases hk : k < xs.length
  · rw [xorl_gb xs ys h k hk]; exact xr_bd _ _ (ha k) (hb k)
  · have : gb (xorl xs ys) k = 0 := by simp only [gb, List.getD, List.getElem?_eq_none (show (xorl xs ys).length ≤ k by rw [xorl_len xs ys h]; omega)]; rfl
    omega
theorem xorl_back (xs ys : List Int) (h : xs.length = ys.length) (ha : AllB xs) : xorl (xorl xs ys) ys = xs := by
  have hl := xorl_len xs ys h
  refine ext_gb (by rw [xorl_len _ _ (by omega)]; omega) fun t ht => ?_
  rw [xorl_len _ _ (by omega)] at ht
  rw [xorl_gb _ _ (by omega) t (by omega), xorl_gb _ _ h t (by omega), xr_back _ _ (ha t).1]
theorem xorl_take (xs ys : List Int) (h : xs.length = ys.length) (k : Nat) (hk : k < xs.length) : (xorl xs ys).take (k + 1) = (xorl xs ys).take k ++ [xr (gb xs k) (gb ys k)] := by
  have hl := xorl_len xs ys h
  rw [List.take_succ_eq_append_getElem (by omega), ← xorl_gb xs ys h k hk]
  simp [gb, List.getD, show k < (xorl xs ys).length by omega]

set_option maxHeartbeats 2000000 in
theorem xor_any (va vb : Value) (xs ys : List Int) (w : World) (ha : Byt w va xs) (hb : Byt w vb ys) (hl : xs.length = ys.length) (hmax : xs.length ≤ 1048576) :
    Calls Tryz.prog 97 #[va, vb] w fun e w' => ∃ v, e = .returned (.tuple #[v, .int .i64 0]) ∧ Byt w' v (xorl xs ys) ∧ Below w.heap.size w w' := by
  obtain ⟨ao, ca, rfl, ha1, ha2, ha3, -, ha5⟩ := ha
  obtain ⟨bo, cb, rfl, hb1, hb2, hb3, -, hb5⟩ := hb
  have HL : Hid (xs.length = ys.length) := hl
  have HA5 : Hid (0 < xs.length → ∃ b off, ao = some ⟨b, off, none⟩ ∧ ∀ t, t < xs.length → w.cell? ⟨b, off + t, none⟩ = some (.int .u8 (gb xs t))) := ha5
  have HB5 : Hid (0 < xs.length → ∃ b off, bo = some ⟨b, off, none⟩ ∧ ∀ t, t < xs.length → w.cell? ⟨b, off + t, none⟩ = some (.int .u8 (gb ys t))) := by
    rw [hl]; exact hb5
  have HA : Hid (AllB xs) := ha3
  have HB : Hid (AllB ys) := hb3
  rw [← hl] at hb1 ⊢
  clear hb5 ha5 ha3 hb3 hl
  have hz := xorl_len xs ys HL.out
  have HZ : Hid ((xorl xs ys).length = xs.length) := hz
  clear hz
  go_enter Tryz.func97, Tryz.ntmps97
  go_wp2_with (at_make; refine make_law _ rfl (.tmp 14) (.tmp 14) rfl w.heap.size (Nat.le_refl _) _ xs.length rfl rfl rfl (by omega) ?_; intro w1 hown hbel hlt)
  go_loopw [18] (fun i wr => ∃ k : Nat, k ≤ xs.length ∧ i = .int .i64 k ∧ OwnN w.heap.size wr w.heap.size xs.length (part (xorl xs ys) k) ∧ Below w.heap.size w wr) (fun i _ => xs.length - (intOf i).toNat)
  case atStart => exact ⟨0, Nat.zero_le _, rfl, by rw [part_zero, HZ.out]; exact hown, hbel⟩
  case round =>
    clear hown hbel
    obtain ⟨k, hk, rfl, hown, hbel⟩ := hrel
    by_cases hlt' : k < xs.length
    · obtain ⟨b, off, rfl, hca⟩ := HA5.out (by omega)
      obtain ⟨b', off', rfl, hcb⟩ := HB5.out (by omega)
      have n1 := World.block_lt_of_cell? w _ (hca k hlt')
      have n2 := World.block_lt_of_cell? w _ (hcb k hlt')
      have c1 : wr.cell? ⟨b, off + k, none⟩ = some (.int .u8 (gb xs k)) := (hbel.cell n1).trans (hca k hlt')
      have c2 : wr.cell? ⟨b', off' + k, none⟩ = some (.int .u8 (gb ys k)) := (hbel.cell n2).trans (hcb k hlt')
      have lk : (k : Int) < (xs.length : Int) := by omega
      have lk0 : (0 : Int) ≤ (k : Int) := by omega
      have c3 := hown.cell hlt'
      have c4 := hown.free k
      have hx : bits .xor .u8 (gb xs k) (gb ys k) = xr (gb xs k) (gb ys k) := xr_of _ _ (HA.out k) (HB.out k)
      have hown' : OwnN w.heap.size (wr.setCell ⟨w.heap.size, k, none⟩ (.int .u8 (xr (gb xs k) (gb ys k)))) w.heap.size xs.length (part (xorl xs ys) (k + 1)) := by
        have h := hown.set k (gb (xorl xs ys) k)
        rw [part_set _ k (by rw [HZ.out]; exact hlt'), xorl_gb xs ys HL.out k hlt'] at h
        exact h
      clear hca hcb
      go_wp2
      go_region
      all_goals go_wp2
      all_goals
        go_roundw
        case rel => exact ⟨k + 1, by omega, by go_num, hown'.drew 1, (hbel.setCell (Nat.le_refl _) _).drew⟩
        case measure => simp [intOf]; omega
    · have hks : k = xs.length := by omega
      subst hks
      have hown2 : OwnN w.heap.size wr w.heap.size xs.length (xorl xs ys) := by
        have := hown; rw [← HZ.out, part_end, HZ.out] at this; exact this
      go_wp2
      go_ret2
      exact ⟨_, rfl, hown2.byt (xorl_all _ _ HL.out HA.out HB.out), hbel⟩

set_option maxHeartbeats 2000000 in
theorem xor_no (va vb : Value) (xs ys : List Int) (w : World) (ha : Byt w va xs) (hb : Byt w vb ys) (hl : xs.length ≠ ys.length) :
    Calls Tryz.prog 97 #[va, vb] w fun e w' => e = .returned (.tuple #[.slice none 0 0, .int .i64 2]) ∧ w' = w := by
  obtain ⟨ao, ca, rfl, ha1, ha2, -, -, -⟩ := ha
  obtain ⟨bo, cb, rfl, hb1, hb2, -, -, -⟩ := hb
  have h2 : ((xs.length : Int) != (ys.length : Int)) = true := by simp; omega
  go_enter Tryz.func97, Tryz.ntmps97
  go_wp2
  go_ret2
  exact ⟨rfl, rfl⟩

theorem xor_both (va vb : Value) (xs ys : List Int) (w : World) (ha : Byt w va xs) (hb : Byt w vb ys) (hmax : xs.length ≤ 1048576) :
    Calls Tryz.prog 97 #[va, vb] w fun e w' => ∃ v c, e = .returned (.tuple #[v, .int .i64 c]) ∧ Below w.heap.size w w' ∧ (xs.length = ys.length → c = 0 ∧ Byt w' v (xorl xs ys)) ∧ (xs.length ≠ ys.length → c = 2 ∧ v = .slice none 0 0) := by
  by_cases h : xs.length = ys.length
  · refine (xor_any va vb xs ys w ha hb h hmax).mono ?_
    rintro e w' ⟨v, rfl, hv, hb'⟩
    exact ⟨v, 0, rfl, hb', fun _ => ⟨rfl, hv⟩, fun hn => absurd h hn⟩
  · refine (xor_no va vb xs ys w ha hb h).mono ?_
    rintro e w' ⟨rfl, rfl⟩
    exact ⟨_, _, rfl, Below.refl _ _, fun hh => absurd hh h, fun _ => ⟨rfl, rfl⟩⟩

/-- what is unlike so far, or-ed -/
def unl : List Int → Int := fun zs => zs.foldl (fun u z => bits .or .u8 u z) 0
theorem unl_snoc (zs : List Int) (z : Int) : unl (zs ++ [z]) = bits .or .u8 (unl zs) z := by simp [unl]
theorem or_zero (u z : Int) (hu : 0 ≤ u ∧ u ≤ 255) (hz : 0 ≤ z ∧ z ≤ 255) : (0 ≤ bits .or .u8 u z ∧ bits .or .u8 u z ≤ 255) ∧ (bits .or .u8 u z = 0 ↔ u = 0 ∧ z = 0) := by
  rw [u8_or _ _ hu.1 (by omega) hz.1 (by omega)]
  have hlt := Nat.or_lt_two_pow (n := 8) (show u.toNat < 2 ^ 8 by omega) (show z.toNat < 2 ^ 8 by omega)
  have h0 : (u.toNat ||| z.toNat) = 0 ↔ u.toNat = 0 ∧ z.toNat = 0 := Nat.or_eq_zero_iff
  omega
theorem unl_from (zs : List Int) : ∀ u : Int, (0 ≤ u ∧ u ≤ 255) → (∀ z ∈ zs, 0 ≤ z ∧ z ≤ 255) → (zs.foldl (fun u z => bits .or .u8 u z) u = 0 ↔ u = 0 ∧ ∀ z ∈ zs, z = 0) := by
  induction zs with
  | nil => intro u hu h; simp
  | cons z zs ih =>
    intro u hu h
    have o := or_zero u z hu (h z (by simp))
    rw [List.foldl_cons, ih _ o.1 (fun y hy => h y (by simp [hy])), o.2]
    simp [and_assoc]
theorem unl_zero (zs : List Int) (h : ∀ z ∈ zs, 0 ≤ z ∧ z ≤ 255) : unl zs = 0 ↔ ∀ z ∈ zs, z = 0 := by
  unfold unl; rw [unl_from zs 0 (by decide) h]; simp
theorem mem_gb {xs : List Int} {z : Int} (h : z ∈ xs) : ∃ i, i < xs.length ∧ gb xs i = z := by
  obtain ⟨i, hi, rfl⟩ := List.getElem_of_mem h
  exact ⟨i, hi, by simp [gb, List.getD, hi]⟩
theorem gb_mem {xs : List Int} {i : Nat} (h : i < xs.length) : gb xs i ∈ xs := by
  simp [gb, List.getD, h]
theorem unl_same (xs ys : List Int) (h : xs.length = ys.length) (ha : AllB xs) (hb : AllB ys) : (unl (xorl xs ys) == 0) = decide (xs = ys) := by
  have hall : ∀ z ∈ xorl xs ys, 0 ≤ z ∧ z ≤ 255 := fun z hz => by
    obtain ⟨i, hi, rfl⟩ := mem_gb hz
    exact xorl_all xs ys h ha hb i
  rw [Bool.eq_iff_iff]
  simp only [beq_iff_eq, decide_eq_true_eq]
  rw [unl_zero _ hall]
  constructor
  · intro hz
    refine ext_gb h fun t ht => ?_
    have := hz (gb (xorl xs ys) t) (gb_mem (by rw [xorl_len xs ys h]; exact ht))
    rw [xorl_gb xs ys h t ht] at this
    exact (xr_zero _ _ (ha t).1 (hb t).1).1 this
  · rintro rfl z hz
    obtain ⟨i, hi, rfl⟩ := mem_gb hz
    rw [xorl_len xs xs rfl] at hi
    rw [xorl_gb xs xs rfl i hi]
    exact (xr_zero _ _ (ha i).1 (ha i).1).2 rfl

set_option maxHeartbeats 2000000 in
theorem oSame_any (va vb : Value) (xs ys : List Int) (w : World) (ha : Byt w va xs) (hb : Byt w vb ys) :
    Calls Tryz.prog 51 #[va, vb] w fun e w' => e = .returned (.bool (decide (xs = ys))) ∧ ∃ n, w' = w.drewN n := by
  obtain ⟨ao, ca, rfl, ha1, ha2, ha3, -, ha5⟩ := ha
  obtain ⟨bo, cb, rfl, hb1, hb2, hb3, -, hb5⟩ := hb
  by_cases hl : xs.length = ys.length
  · have HL : Hid (xs.length = ys.length) := hl
    have HA5 : Hid (0 < xs.length → ∃ b off, ao = some ⟨b, off, none⟩ ∧ ∀ t, t < xs.length → w.cell? ⟨b, off + t, none⟩ = some (.int .u8 (gb xs t))) := ha5
    have HB5 : Hid (0 < xs.length → ∃ b off, bo = some ⟨b, off, none⟩ ∧ ∀ t, t < xs.length → w.cell? ⟨b, off + t, none⟩ = some (.int .u8 (gb ys t))) := by
      rw [hl]; exact hb5
    have HA : Hid (AllB xs) := ha3
    have HB : Hid (AllB ys) := hb3
    rw [← hl] at hb1 ⊢
    clear hb5 ha5 ha3 hb3 hl
    rw [← unl_same xs ys HL.out HA.out HB.out]
    go_enter Tryz.func51, Tryz.ntmps51
    go_wp2
    go_loopw [5, 14] (fun u i wr => ∃ k n : Nat, k ≤ xs.length ∧ i = .int .i64 k ∧ u = .int .u8 (unl ((xorl xs ys).take k)) ∧ wr = w.drewN n) (fun _ i _ => xs.length - (intOf i).toNat)
    case atStart => exact ⟨0, 0, Nat.zero_le _, rfl, rfl, rfl⟩
    case round =>
      obtain ⟨k, n, hk, rfl, rfl, rfl⟩ := hrel
      by_cases hlt : k < xs.length
      · obtain ⟨b, off, rfl, hca⟩ := HA5.out (by omega)
        obtain ⟨b', off', rfl, hcb⟩ := HB5.out (by omega)
        have c1 : w.cell? ⟨b, off + k, none⟩ = some (.int .u8 (gb xs k)) := hca k hlt
        have c2 : w.cell? ⟨b', off' + k, none⟩ = some (.int .u8 (gb ys k)) := hcb k hlt
        have lk : (k : Int) < (xs.length : Int) := by omega
        have hx : bits .xor .u8 (gb xs k) (gb ys k) = xr (gb xs k) (gb ys k) := xr_of _ _ (HA.out k) (HB.out k)
        have SN : Hid (unl ((xorl xs ys).take (k + 1)) = bits .or .u8 (unl ((xorl xs ys).take k)) (xr (gb xs k) (gb ys k))) := by
          show _ = _
          rw [xorl_take xs ys HL.out k hlt, unl_snoc]
        clear hca hcb
        go_wp2
        go_quiet (fail)
        go_wp2
        go_roundw
        case rel => exact ⟨k + 1, n + nq, by omega, by go_num, by rw [SN.out], rfl⟩
        case measure => simp [intOf]; omega
      · have hks : k = xs.length := by omega
        have e : Hid ((xorl xs ys).take k = xorl xs ys) := List.take_of_length_le (by rw [xorl_len xs ys HL.out]; omega)
        rw [e.out]
        go_wp2
        go_ret
        exact ⟨rfl, n, rfl⟩
  · have : decide (xs = ys) = false := by simp only [decide_eq_false_iff_not]; intro e; exact hl (by rw [e])
    rw [this]
    have h2 : ((xs.length : Int) != (ys.length : Int)) = true := by simp; omega
    go_enter Tryz.func51, Tryz.ntmps51
    go_wp2
    go_ret
    exact ⟨rfl, 0, rfl⟩

def inv (xs : List Int) : List Int := xs.map fun x => xr 255 x
theorem inv_len (xs : List Int) : (inv xs).length = xs.length := by simp [inv]
theorem inv_gb (xs : List Int) (k : Nat) (hk : k < xs.length) : gb (inv xs) k = xr 255 (gb xs k) := by simp [gb, inv, List.getD, hk]
theorem inv_all (xs : List Int) (ha : AllB xs) : AllB (inv xs) := allB_mem fun z hz => by
  obtain ⟨i, hi, rfl⟩ := mem_gb hz
  rw [inv_len] at hi
  rw [inv_gb xs i hi]
  exact xr_bd _ _ (by decide) (ha i)
theorem inv_xorl (xs : List Int) : inv xs = xorl xs (List.replicate xs.length 255) := by
  refine ext_gb (by rw [inv_len, xorl_len _ _ (by simp)]) fun t ht => ?_
  rw [inv_len] at ht
  rw [inv_gb xs t ht, xorl_gb _ _ (by simp) t ht, xr_comm]
  simp [gb, List.getD, ht]

set_option maxHeartbeats 2000000 in
theorem rxor_own (va vb : Value) (xs ys : List Int) (w : World) (ha : Byt w va xs) (hb : Byt w vb ys) (hl : xs.length = ys.length) (hmax : xs.length ≤ 1048576) :
    Calls Tryz.prog 42 #[va, vb] w fun e w' => ∃ v, e = .returned v ∧ Own w.heap.size w' v (xorl xs ys) ∧ Below w.heap.size w w' := by
  obtain ⟨ao, ca, rfl, ha1, ha2, ha3, -, ha5⟩ := ha
  obtain ⟨bo, cb, rfl, hb1, hb2, hb3, -, hb5⟩ := hb
  have HL : Hid (xs.length = ys.length) := hl
  have HA5 : Hid (0 < xs.length → ∃ b off, ao = some ⟨b, off, none⟩ ∧ ∀ t, t < xs.length → w.cell? ⟨b, off + t, none⟩ = some (.int .u8 (gb xs t))) := ha5
  have HB5 : Hid (0 < xs.length → ∃ b off, bo = some ⟨b, off, none⟩ ∧ ∀ t, t < xs.length → w.cell? ⟨b, off + t, none⟩ = some (.int .u8 (gb ys t))) := by
    rw [hl]; exact hb5
  have HA : Hid (AllB xs) := ha3
  have HB : Hid (AllB ys) := hb3
  rw [← hl] at hb1 ⊢
  clear hb5 ha5 ha3 hb3 hl
  have HZ : Hid ((xorl xs ys).length = xs.length) := xorl_len xs ys HL.out
  go_enter Tryz.func42, Tryz.ntmps42
  go_wp2
  go_loopw [5, 6] (fun v i wr => ∃ k : Nat, k ≤ xs.length ∧ i = .int .i64 k ∧ Own w.heap.size wr v ((xorl xs ys).take k) ∧ Below w.heap.size w wr) (fun _ i _ => xs.length - (intOf i).toNat)
  case atStart => exact ⟨0, Nat.zero_le _, rfl, Own.empty w (Nat.le_refl _), (Below.refl _ _).alloc (Nat.le_refl _) _⟩
  case round =>
    obtain ⟨k, hk, rfl, hown, hbel⟩ := hrel
    have hsz := hbel.size
    by_cases hlt' : k < xs.length
    · obtain ⟨b, off, rfl, hca⟩ := HA5.out (by omega)
      obtain ⟨b', off', rfl, hcb⟩ := HB5.out (by omega)
      have n1 := World.block_lt_of_cell? w _ (hca k hlt')
      have n2 := World.block_lt_of_cell? w _ (hcb k hlt')
      have c1 : wr.cell? ⟨b, off + k, none⟩ = some (.int .u8 (gb xs k)) := (hbel.cell n1).trans (hca k hlt')
      have c2 : wr.cell? ⟨b', off' + k, none⟩ = some (.int .u8 (gb ys k)) := (hbel.cell n2).trans (hcb k hlt')
      have lk : (k : Int) < (xs.length : Int) := by omega
      have lk0 : (0 : Int) ≤ (k : Int) := by omega
      have hx : bits .xor .u8 (gb xs k) (gb ys k) = xr (gb xs k) (gb ys k) := xr_of _ _ (HA.out k) (HB.out k)
      have hlen : ((xorl xs ys).take k).length ≤ 1099511627776 := by simp; omega
      have SN : Hid ((xorl xs ys).take (k + 1) = (xorl xs ys).take k ++ [xr (gb xs k) (gb ys k)]) := xorl_take xs ys HL.out k hlt'
      have HLEN : Hid (((xorl xs ys).take k).length ≤ 1099511627776) := hlen
      clear hca hcb hlen
      go_wp2
      go_region_held3 (fun w' => w'.cell? ⟨b, off + k, none⟩ = some (.int .u8 (gb xs k)) ∧ w'.cell? ⟨b', off' + k, none⟩ = some (.int .u8 (gb ys k)))
        (first
          | go_keep
          | (exact ⟨by rw [hbel'.cell n1]; simpa using c1, by rw [hbel'.cell n2]; simpa using c2⟩))
        ((refine step_push1 wr.drew rfl (.tmp 14) (.tmp 24) rfl w.heap.size (by simpa using hsz) _ _ (xr (gb xs k) (gb ys k)) rfl rfl hown HLEN.out ?_; intro v2 w2 hown' hbel'))
      go_wp2
      go_roundw
      case rel => exact ⟨k + 1, by omega, by go_num, by rw [SN.out]; exact hown', hbel.drew.trans hbel'⟩
      case measure => simp [intOf]; omega
    · have hks : k = xs.length := by omega
      have e : Hid ((xorl xs ys).take k = xorl xs ys) := List.take_of_length_le (by rw [HZ.out]; omega)
      rw [e.out] at hown
      go_wp2
      go_ret
      exact ⟨_, rfl, hown, hbel⟩

theorem rxor_any (va vb : Value) (xs ys : List Int) (w : World) (ha : Byt w va xs) (hb : Byt w vb ys) (hl : xs.length = ys.length) (hmax : xs.length ≤ 1048576) :
    Calls Tryz.prog 42 #[va, vb] w fun e w' => ∃ v, e = .returned v ∧ Byt w' v (xorl xs ys) ∧ Below w.heap.size w w' :=
  (rxor_own va vb xs ys w ha hb hl hmax).mono fun _ _ ⟨v, he, ho, hbl⟩ => ⟨v, he, ho.byt (xorl_all _ _ hl ha.all hb.all), hbl⟩
end Go.Proofs.YtbkaecjkgjkheaaGreatDoor

/- Columns of four bytes, mixed by four weights: as numbers. No claim of its own. -/
namespace Go.Proofs.YtbkaecjkgjkheaaGreatDoor
open Go.RowKit
set_option maxRecDepth 20000

def gn (l : List Nat) (i : Nat) : Nat := l.getD i 0
/-- numbers, as whole numbers -/
def cI (l : List Nat) : List Int := l.map fun n : Nat => (n : Int)
theorem cI_len (l : List Nat) : (cI l).length = l.length := by simp [cI]
theorem gb_cI (l : List Nat) (i : Nat) : gb (cI l) i = (gn l i : Int) := by
  unfold gb cI gn
  by_cases h : i < l.length
  · simp [List.getD, h]
  · simp [List.getD, h]
/-- four bytes -/
def Col (l : List Nat) : Prop := l.length = 4 ∧ ∀ i, gn l i < 256

/-- a sum of four products -/
def tt (cs vs : List Nat) (i : Nat) : Nat := ((gm (gn vs 0) (gn cs i) ^^^ gm (gn vs 1) (gn cs ((i + 1) % 4))) ^^^ gm (gn vs 2) (gn cs ((i + 2) % 4))) ^^^ gm (gn vs 3) (gn cs ((i + 3) % 4))
/-- the first j of them -/
def acc (cs vs : List Nat) (i : Nat) : Nat → Nat
  | 0 => 0
  | j + 1 => acc cs vs i j ^^^ gm (gn vs j) (gn cs ((i + j) % 4))
theorem acc_four (cs vs : List Nat) (i : Nat) (h : i < 4) : acc cs vs i 4 = tt cs vs i := by
  simp only [acc, tt, Nat.zero_xor, Nat.add_zero, Nat.mod_eq_of_lt h]
theorem acc_lt (cs vs : List Nat) (hv : Col vs) (i j : Nat) : acc cs vs i j < 256 := by
  induction j with
  | zero => simp [acc]
  | succ j ih => exact xor_lt _ _ ih (gm_lt _ _ (hv.2 j))
theorem tt_lt (cs vs : List Nat) (hv : Col vs) (i : Nat) : tt cs vs i < 256 :=
  xor_lt _ _ (xor_lt _ _ (xor_lt _ _ (gm_lt _ _ (hv.2 0)) (gm_lt _ _ (hv.2 1))) (gm_lt _ _ (hv.2 2))) (gm_lt _ _ (hv.2 3))
def trn (cs vs : List Nat) : List Nat := [tt cs vs 0, tt cs vs 1, tt cs vs 2, tt cs vs 3]
theorem col4 (a b c d : Nat) (ha : a < 256) (hb : b < 256) (hc : c < 256) (hd : d < 256) : Col [a, b, c, d] := ⟨rfl, fun i => by
  match i with
  | 0 => exact ha
  | 1 => exact hb
  | 2 => exact hc
  | 3 => exact hd
  | _ + 4 => simp [gn]⟩
theorem trn_col (cs vs : List Nat) (hv : Col vs) : Col (trn cs vs) := col4 _ _ _ _ (tt_lt cs vs hv 0) (tt_lt cs vs hv 1) (tt_lt cs vs hv 2) (tt_lt cs vs hv 3)
/-- the sums as far as they are told -/
def prt (cs vs : List Nat) (i j : Nat) : List Int := (List.range 4).map fun t => ((if t < i then tt cs vs t else if t = i then acc cs vs i j else 0 : Nat) : Int)
theorem prt_len (cs vs : List Nat) (i j : Nat) : (prt cs vs i j).length = 4 := by simp [prt]
theorem gb_prt (cs vs : List Nat) (i j t : Nat) (ht : t < 4) : gb (prt cs vs i j) t = ((if t < i then tt cs vs t else if t = i then acc cs vs i j else 0 : Nat) : Int) := by
  simp [prt, gb, List.getD, ht]
def z4 : List Int := [0, 0, 0, 0]
theorem prt_zero (cs vs : List Nat) : prt cs vs 0 0 = z4 := ext_gb (by rw [prt_len]; rfl) fun t ht => by
  rw [prt_len] at ht
  rw [gb_prt _ _ _ _ _ ht]
  match t, ht with
  | 0, _ => rfl
  | 1, _ => rfl
  | 2, _ => rfl
  | 3, _ => rfl
theorem prt_at (cs vs : List Nat) (i j : Nat) (h : i < 4) : gb (prt cs vs i j) i = (acc cs vs i j : Int) := by
  rw [gb_prt _ _ _ _ _ h]; simp
theorem gb_set (xs : List Int) (i t : Nat) (x : Int) (h : t < xs.length) : gb (xs.set i x) t = if i = t then x else gb xs t := by
  by_cases e : i = t
  · subst e; simp [gb, List.getD, h]
  · simp [gb, List.getD, e]
theorem prt_set (cs vs : List Nat) (i j : Nat) : (prt cs vs i j).set i ((acc cs vs i (j + 1) : Nat) : Int) = prt cs vs i (j + 1) := ext_gb (by simp [prt]) fun t ht => by
  rw [List.length_set, prt_len] at ht
  rw [gb_set _ _ _ _ (by rw [prt_len]; exact ht), gb_prt _ _ _ _ _ ht, gb_prt _ _ _ _ _ ht]
  by_cases e : i = t
  · subst e; simp
  · rw [if_neg e]
    have : ¬ t = i := fun h => e h.symm
    simp [this]
theorem prt_row (cs vs : List Nat) (i : Nat) (h : i < 4) : prt cs vs i 4 = prt cs vs (i + 1) 0 := ext_gb (by simp [prt]) fun t ht => by
  rw [prt_len] at ht
  rw [gb_prt _ _ _ _ _ ht, gb_prt _ _ _ _ _ ht, acc_four cs vs i h]
  congr 1
  by_cases h1 : t < i
  · rw [if_pos h1, if_pos (by omega)]
  · rw [if_neg h1]
    by_cases h2 : t = i
    · subst h2; simp
    · rw [if_neg h2, if_neg (by omega)]; simp [acc]
theorem prt_end (cs vs : List Nat) : prt cs vs 4 0 = cI (trn cs vs) := rfl
theorem prt_put (cs vs : List Nat) (i : Nat) (h : i < 4) : (prt cs vs i 0).set i ((tt cs vs i : Nat) : Int) = prt cs vs (i + 1) 0 := by
  rw [← prt_row cs vs i h]
  refine ext_gb (by simp [prt]) fun t ht => ?_
  rw [List.length_set, prt_len] at ht
  rw [gb_set _ _ _ _ (by rw [prt_len]; exact ht), gb_prt _ _ _ _ _ ht, gb_prt _ _ _ _ _ ht, acc_four cs vs i h]
  by_cases e : i = t
  · subst e; simp
  · rw [if_neg e]
    have : ¬ t = i := fun h => e h.symm
    simp [this]

theorem dist_gm (a b x : Nat) : gm (a ^^^ b) x = gm a x ^^^ gm b x := gmf_xor 8 a b x
/-- one sum -/
def s4 (v0 v1 v2 v3 a b c d : Nat) : Nat := ((gm v0 a ^^^ gm v1 b) ^^^ gm v2 c) ^^^ gm v3 d
theorem sum_again (u0 u1 u2 u3 v0 v1 v2 v3 a b c d : Nat) (h0 : u0 < 256) (h1 : u1 < 256) (h2 : u2 < 256) (h3 : u3 < 256) (k0 : v0 < 256) (k1 : v1 < 256) (k2 : v2 < 256) (k3 : v3 < 256) :
    s4 u0 u1 u2 u3 (s4 v0 v1 v2 v3 a b c d) (s4 v0 v1 v2 v3 b c d a) (s4 v0 v1 v2 v3 c d a b) (s4 v0 v1 v2 v3 d a b c)
      = s4 (((gm u0 v0 ^^^ gm u1 v3) ^^^ gm u2 v2) ^^^ gm u3 v1) (((gm u0 v1 ^^^ gm u1 v0) ^^^ gm u2 v3) ^^^ gm u3 v2) (((gm u0 v2 ^^^ gm u1 v1) ^^^ gm u2 v0) ^^^ gm u3 v3) (((gm u0 v3 ^^^ gm u1 v2) ^^^ gm u2 v1) ^^^ gm u3 v0) a b c d := by
  simp only [s4, gm_dist, dist_gm]
  rw [gm_assoc u0 v0 a h0 k0, gm_assoc u0 v1 b h0 k1, gm_assoc u0 v2 c h0 k2, gm_assoc u0 v3 d h0 k3,
    gm_assoc u1 v3 a h1 k3, gm_assoc u1 v0 b h1 k0, gm_assoc u1 v1 c h1 k1, gm_assoc u1 v2 d h1 k2,
    gm_assoc u2 v2 a h2 k2, gm_assoc u2 v3 b h2 k3, gm_assoc u2 v0 c h2 k0, gm_assoc u2 v1 d h2 k1,
    gm_assoc u3 v1 a h3 k1, gm_assoc u3 v2 b h3 k2, gm_assoc u3 v3 c h3 k3, gm_assoc u3 v0 d h3 k0]
  ac_rfl
theorem s4_one (a b c d : Nat) (ha : a < 256) : s4 1 0 0 0 a b c d = a := by simp [s4, zero_gm, one_gm a ha]
theorem trn_eq (a b c d v0 v1 v2 v3 : Nat) : trn [a, b, c, d] [v0, v1, v2, v3] = [s4 v0 v1 v2 v3 a b c d, s4 v0 v1 v2 v3 b c d a, s4 v0 v1 v2 v3 c d a b, s4 v0 v1 v2 v3 d a b c] := rfl
theorem back_by (a b c d : Nat) (u0 u1 u2 u3 v0 v1 v2 v3 : Nat) (h0 : u0 < 256) (h1 : u1 < 256) (h2 : u2 < 256) (h3 : u3 < 256) (k0 : v0 < 256) (k1 : v1 < 256) (k2 : v2 < 256) (k3 : v3 < 256)
    (e0 : ((gm u0 v0 ^^^ gm u1 v3) ^^^ gm u2 v2) ^^^ gm u3 v1 = 1) (e1 : ((gm u0 v1 ^^^ gm u1 v0) ^^^ gm u2 v3) ^^^ gm u3 v2 = 0) (e2 : ((gm u0 v2 ^^^ gm u1 v1) ^^^ gm u2 v0) ^^^ gm u3 v3 = 0) (e3 : ((gm u0 v3 ^^^ gm u1 v2) ^^^ gm u2 v1) ^^^ gm u3 v0 = 0)
    (ha : a < 256) (hb : b < 256) (hc : c < 256) (hd : d < 256) : trn (trn [a, b, c, d] [v0, v1, v2, v3]) [u0, u1, u2, u3] = [a, b, c, d] := by
  rw [trn_eq, trn_eq]
  rw [sum_again u0 u1 u2 u3 v0 v1 v2 v3 a b c d h0 h1 h2 h3 k0 k1 k2 k3, sum_again u0 u1 u2 u3 v0 v1 v2 v3 b c d a h0 h1 h2 h3 k0 k1 k2 k3,
    sum_again u0 u1 u2 u3 v0 v1 v2 v3 c d a b h0 h1 h2 h3 k0 k1 k2 k3, sum_again u0 u1 u2 u3 v0 v1 v2 v3 d a b c h0 h1 h2 h3 k0 k1 k2 k3]
  rw [e0, e1, e2, e3, s4_one _ _ _ _ ha, s4_one _ _ _ _ hb, s4_one _ _ _ _ hc, s4_one _ _ _ _ hd]
def mixW : List Nat := [2, 3, 1, 1]
def unmW : List Nat := [14, 11, 13, 9]
theorem four_of (l : List Nat) (h : Col l) : ∃ a b c d, l = [a, b, c, d] ∧ a < 256 ∧ b < 256 ∧ c < 256 ∧ d < 256 := by
  obtain ⟨hl, hb⟩ := h
  match l, hl with
  | [a, b, c, d], _ => exact ⟨a, b, c, d, rfl, hb 0, hb 1, hb 2, hb 3⟩
theorem unmix_mix (l : List Nat) (h : Col l) : trn (trn l mixW) unmW = l := by
  obtain ⟨a, b, c, d, rfl, ha, hb, hc, hd⟩ := four_of l h
  exact back_by a b c d 14 11 13 9 2 3 1 1 (by omega) (by omega) (by omega) (by omega) (by omega) (by omega) (by omega) (by omega) (by decide +kernel) (by decide +kernel) (by decide +kernel) (by decide +kernel) ha hb hc hd
theorem mix_unmix (l : List Nat) (h : Col l) : trn (trn l unmW) mixW = l := by
  obtain ⟨a, b, c, d, rfl, ha, hb, hc, hd⟩ := four_of l h
  exact back_by a b c d 2 3 1 1 14 11 13 9 (by omega) (by omega) (by omega) (by omega) (by omega) (by omega) (by omega) (by omega) (by decide +kernel) (by decide +kernel) (by decide +kernel) (by decide +kernel) ha hb hc hd
theorem mixW_col : Col mixW := col4 _ _ _ _ (by omega) (by omega) (by omega) (by omega)
theorem unmW_col : Col unmW := col4 _ _ _ _ (by omega) (by omega) (by omega) (by omega)
end Go.Proofs.YtbkaecjkgjkheaaGreatDoor

/- AES with keys of 32 bytes, on lists of bytes: a key's words, rounds, encrypting and decrypting; that each undoes the other. No claim of its own. -/
namespace Go.Proofs.YtbkaecjkgjkheaaGreatDoor
open Go.RowKit
set_option maxRecDepth 20000

/-- sixteen bytes -/
def Blk (b : List Int) : Prop := b.length = 16 ∧ AllB b
theorem range_gb (f : Nat → Int) (n t : Nat) (h : t < n) : gb ((List.range n).map f) t = f t := by simp [gb, List.getD, h]

/-! ### rows shifted -/
def shi (i by_ : Nat) : Nat := 4 * ((i / 4 + by_ * (i % 4)) % 4) + i % 4
def shl16 (b : List Int) (by_ : Nat) : List Int := (List.range 16).map fun i => gb b (shi i by_)
theorem shl16_len (b : List Int) (n : Nat) : (shl16 b n).length = 16 := by simp [shl16]
theorem shl16_gb (b : List Int) (n t : Nat) (h : t < 16) : gb (shl16 b n) t = gb b (shi t n) := range_gb _ _ _ h
theorem shl16_all (b : List Int) (n : Nat) (h : AllB b) : AllB (shl16 b n) := allB_mem fun x hx => by
  obtain ⟨i, _, rfl⟩ := List.mem_map.1 hx
  exact h _
theorem shl16_blk (b : List Int) (n : Nat) (h : Blk b) : Blk (shl16 b n) := ⟨shl16_len b n, shl16_all b n h.2⟩
theorem shi_lt (i n : Nat) : shi i n < 16 := by unfold shi; omega
theorem shi_31 : ∀ i, i < 16 → shi (shi i 3) 1 = i := by decide
theorem shi_13 : ∀ i, i < 16 → shi (shi i 1) 3 = i := by decide
theorem shl_31 (b : List Int) (h : b.length = 16) : shl16 (shl16 b 1) 3 = b := ext_gb (by rw [shl16_len, h]) fun t ht => by
  rw [shl16_len] at ht
  rw [shl16_gb _ _ _ ht, shl16_gb _ _ _ (shi_lt t 3), shi_31 t ht]
theorem shl_13 (b : List Int) (h : b.length = 16) : shl16 (shl16 b 3) 1 = b := ext_gb (by rw [shl16_len, h]) fun t ht => by
  rw [shl16_len] at ht
  rw [shl16_gb _ _ _ ht, shl16_gb _ _ _ (shi_lt t 1), shi_13 t ht]

/-! ### bytes put for -/
theorem tab_allB {tab : List Int} (h : tab.all (fun x => decide (0 ≤ x ∧ x ≤ 255)) = true) : AllB tab := allB_mem fun x hx => by
  simpa using List.all_eq_true.1 h x hx
theorem pAll : AllB ptab := tab_allB (by decide +kernel)
theorem bAll : AllB btab := tab_allB (by decide +kernel)
theorem looked_blk (tab b : List Int) (ht : AllB tab) (h : b.length = 16) : Blk (looked tab b) := ⟨by rw [looked_len, h], looked_all tab b ht⟩
theorem looked_bp (b : List Int) (h : AllB b) : looked btab (looked ptab b) = b := ext_gb (by rw [looked_len, looked_len]) fun t ht => by
  rw [looked_len, looked_len] at ht
  rw [looked_gb _ _ _ (by rw [looked_len]; exact ht), looked_gb _ _ _ ht]
  have hb := h t
  have h8 : (gb b t).toNat < 256 := by omega
  rw [gb_p _ h8, Int.toNat_natCast, gb_b _ (sb_lt _ h8), sk_sb _ h8]
  omega
theorem looked_pb (b : List Int) (h : AllB b) : looked ptab (looked btab b) = b := ext_gb (by rw [looked_len, looked_len]) fun t ht => by
  rw [looked_len, looked_len] at ht
  rw [looked_gb _ _ _ (by rw [looked_len]; exact ht), looked_gb _ _ _ ht]
  have hb := h t
  have h8 : (gb b t).toNat < 256 := by omega
  rw [gb_b _ h8, Int.toNat_natCast, gb_p _ (sk_lt _ h8), sb_sk _ h8]
  omega

/-! ### columns mixed -/
def colOf (b : List Int) (c : Nat) : List Nat := [(gb b (4 * c)).toNat, (gb b (4 * c + 1)).toNat, (gb b (4 * c + 2)).toNat, (gb b (4 * c + 3)).toNat]
theorem colOf_col (b : List Int) (c : Nat) (h : AllB b) : Col (colOf b c) := by
  have h0 := h (4 * c)
  have h1 := h (4 * c + 1)
  have h2 := h (4 * c + 2)
  have h3 := h (4 * c + 3)
  exact col4 _ _ _ _ (by omega) (by omega) (by omega) (by omega)
theorem colOf_gn (b : List Int) (c i : Nat) (h : i < 4) : gn (colOf b c) i = (gb b (4 * c + i)).toNat := by
  match i, h with
  | 0, _ => rfl
  | 1, _ => rfl
  | 2, _ => rfl
  | 3, _ => rfl
def mixb (b : List Int) (ws : List Nat) : List Int := (List.range 16).map fun i => (gn (trn (colOf b (i / 4)) ws) (i % 4) : Int)
theorem mixb_len (b : List Int) (ws : List Nat) : (mixb b ws).length = 16 := by simp [mixb]
theorem mixb_gb (b : List Int) (ws : List Nat) (t : Nat) (h : t < 16) : gb (mixb b ws) t = (gn (trn (colOf b (t / 4)) ws) (t % 4) : Int) := range_gb _ _ _ h
theorem mixb_blk (b : List Int) (ws : List Nat) (hw : Col ws) : Blk (mixb b ws) := ⟨mixb_len b ws, allB_mem fun x hx => by
  obtain ⟨i, _, rfl⟩ := List.mem_map.1 hx
  have := (trn_col (colOf b (i / 4)) ws hw).2 (i % 4)
  omega⟩
theorem colOf_mixb (b : List Int) (ws : List Nat) (c : Nat) (h : c < 4) : colOf (mixb b ws) c = trn (colOf b c) ws := by
  have e : ∀ i, i < 4 → (gb (mixb b ws) (4 * c + i)).toNat = gn (trn (colOf b c) ws) i := fun i hi => by
    rw [mixb_gb b ws _ (by omega), show (4 * c + i) / 4 = c by omega, show (4 * c + i) % 4 = i by omega, Int.toNat_natCast]
  have e0 := e 0 (by omega)
  have e1 := e 1 (by omega)
  have e2 := e 2 (by omega)
  have e3 := e 3 (by omega)
  rw [Nat.add_zero] at e0
  unfold colOf at *
  rw [e0, e1, e2, e3]
  rfl
theorem mixb_back (b : List Int) (us vs : List Nat) (h : Blk b) (hb : ∀ l, Col l → trn (trn l us) vs = l) : mixb (mixb b us) vs = b := ext_gb (by rw [mixb_len, h.1]) fun t ht => by
  rw [mixb_len] at ht
  rw [mixb_gb _ _ _ ht, colOf_mixb b us _ (by omega), hb _ (colOf_col b _ h.2), colOf_gn b _ _ (by omega), show 4 * (t / 4) + t % 4 = t by omega]
  have := h.2 t
  omega
theorem mixb_um (b : List Int) (h : Blk b) : mixb (mixb b mixW) unmW = b := mixb_back b mixW unmW h unmix_mix
theorem mixb_mu (b : List Int) (h : Blk b) : mixb (mixb b unmW) mixW = b := mixb_back b unmW mixW h mix_unmix

/-! ### a key's words -/
/-- four bytes -/
def Wd (x : List Int) : Prop := x.length = 4 ∧ AllB x
def cut4 (key : List Int) (i : Nat) : List Int := (key.take (4 * i + 4)).drop (4 * i)
/-- what is xored to the word eight ahead -/
def mid (i : Nat) (x : List Int) : List Int :=
  if i % 8 = 0 then [xr (gb ptab (gb x 1).toNat) (pw 2 (i / 8 - 1) : Int), gb ptab (gb x 2).toNat, gb ptab (gb x 3).toNat, gb ptab (gb x 0).toNat]
  else if i % 8 = 4 then [gb ptab (gb x 0).toNat, gb ptab (gb x 1).toNat, gb ptab (gb x 2).toNat, gb ptab (gb x 3).toNat] else x
/-- the next word -/
def nxt (key : List Int) (ws : List (List Int)) (i : Nat) : List Int := if i < 8 then cut4 key i else xorl (ws.getD (i - 8) []) (mid i (ws.getD (i - 1) []))
/-- the first n words -/
def wds (key : List Int) : Nat → List (List Int)
  | 0 => []
  | n + 1 => wds key n ++ [nxt key (wds key n) n]
theorem wds_len (key : List Int) (n : Nat) : (wds key n).length = n := by
  induction n with
  | zero => rfl
  | succ n ih => simp [wds, ih]
/-- word i -/
def wd (key : List Int) (i : Nat) : List Int := nxt key (wds key i) i
theorem wds_get (key : List Int) (n i : Nat) (h : i < n) : (wds key n).getD i [] = wd key i := by
  induction n with
  | zero => omega
  | succ n ih =>
    rw [wds, List.getD_eq_getElem?_getD]
    by_cases h' : i < n
    · rw [List.getElem?_append_left (by rw [wds_len]; exact h'), ← List.getD_eq_getElem?_getD, ih h']
    · have : i = n := by omega
      subst this
      rw [List.getElem?_append_right (by rw [wds_len]; omega), wds_len]
      simp [wd]
theorem wd_eq (key : List Int) (i : Nat) : wd key i = if i < 8 then cut4 key i else xorl (wd key (i - 8)) (mid i (wd key (i - 1))) := by
  rw [wd, nxt]
  by_cases h : i < 8
  · rw [if_pos h, if_pos h]
  · rw [if_neg h, if_neg h, wds_get key i (i - 8) (by omega), wds_get key i (i - 1) (by omega)]
theorem wd4 (a b c d : Int) (ha : 0 ≤ a ∧ a ≤ 255) (hb : 0 ≤ b ∧ b ≤ 255) (hc : 0 ≤ c ∧ c ≤ 255) (hd : 0 ≤ d ∧ d ≤ 255) : Wd [a, b, c, d] := ⟨rfl, allB_mem fun x hx => by
  simp at hx
  rcases hx with rfl | rfl | rfl | rfl <;> assumption⟩
theorem mid_wd (i : Nat) (x : List Int) (h : Wd x) : Wd (mid i x) := by
  have hp : ∀ j, 0 ≤ gb ptab j ∧ gb ptab j ≤ 255 := pAll
  unfold mid
  by_cases h0 : i % 8 = 0
  · rw [if_pos h0]
    have := pw_lt 2 (i / 8 - 1)
    exact wd4 _ _ _ _ (xr_bd _ _ (hp _) (by omega)) (hp _) (hp _) (hp _)
  · rw [if_neg h0]
    by_cases h4 : i % 8 = 4
    · rw [if_pos h4]; exact wd4 _ _ _ _ (hp _) (hp _) (hp _) (hp _)
    · rw [if_neg h4]; exact h
theorem cut4_gb (key : List Int) (i t : Nat) (h : t < 4) : gb (cut4 key i) t = gb key (4 * i + t) := gb_cut key (4 * i) (4 * i + 4) t (by omega)
theorem cut4_wd (key : List Int) (i : Nat) (hk : AllB key) (h : 4 * i + 4 ≤ key.length) : Wd (cut4 key i) := ⟨by simp [cut4]; omega, allB_mem fun x hx => by
  obtain ⟨j, hj, rfl⟩ := mem_gb (List.mem_of_mem_take (List.mem_of_mem_drop hx))
  exact hk j⟩
theorem xorl_wd (x y : List Int) (hx : Wd x) (hy : Wd y) : Wd (xorl x y) := ⟨by rw [xorl_len _ _ (by rw [hx.1, hy.1]), hx.1], xorl_all _ _ (by rw [hx.1, hy.1]) hx.2 hy.2⟩
theorem wd_wd (key : List Int) (hk : key.length = 32) (ha : AllB key) (i : Nat) : Wd (wd key i) := by
  induction i using Nat.strongRecOn with
  | ind i ih =>
    rw [wd_eq]
    by_cases h : i < 8
    · rw [if_pos h]; exact cut4_wd key i ha (by omega)
    · rw [if_neg h]; exact xorl_wd _ _ (ih _ (by omega)) (mid_wd i _ (ih _ (by omega)))
/-- a round's key -/
def rk (key : List Int) (r : Nat) : List Int := wd key (4 * r) ++ wd key (4 * r + 1) ++ wd key (4 * r + 2) ++ wd key (4 * r + 3)
theorem rk_blk (key : List Int) (hk : key.length = 32) (ha : AllB key) (r : Nat) : Blk (rk key r) := by
  have h0 := wd_wd key hk ha (4 * r)
  have h1 := wd_wd key hk ha (4 * r + 1)
  have h2 := wd_wd key hk ha (4 * r + 2)
  have h3 := wd_wd key hk ha (4 * r + 3)
  refine ⟨by simp [rk, h0.1, h1.1, h2.1, h3.1], allB_mem fun x hx => ?_⟩
  simp only [rk, List.mem_append] at hx
  rcases hx with ((hx | hx) | hx) | hx
  · obtain ⟨j, _, rfl⟩ := mem_gb hx; exact h0.2 j
  · obtain ⟨j, _, rfl⟩ := mem_gb hx; exact h1.2 j
  · obtain ⟨j, _, rfl⟩ := mem_gb hx; exact h2.2 j
  · obtain ⟨j, _, rfl⟩ := mem_gb hx; exact h3.2 j

/-! ### rounds -/
theorem xorl_blk (x y : List Int) (hx : Blk x) (hy : Blk y) : Blk (xorl x y) := ⟨by rw [xorl_len _ _ (by rw [hx.1, hy.1]), hx.1], xorl_all _ _ (by rw [hx.1, hy.1]) hx.2 hy.2⟩
theorem xorl_bb (x y : List Int) (hx : Blk x) (hy : Blk y) : xorl (xorl x y) y = x := xorl_back x y (by rw [hx.1, hy.1]) hx.2
/-- mixing, in all rounds but the last -/
def mx (r : Nat) (b : List Int) : List Int := if r < 14 then mixb b mixW else b
def um (r : Nat) (b : List Int) : List Int := if r < 14 then mixb b unmW else b
theorem mx_blk (r : Nat) (b : List Int) (h : Blk b) : Blk (mx r b) := by unfold mx; split; exact mixb_blk _ _ mixW_col; exact h
theorem um_blk (r : Nat) (b : List Int) (h : Blk b) : Blk (um r b) := by unfold um; split; exact mixb_blk _ _ unmW_col; exact h
theorem um_mx (r : Nat) (b : List Int) (h : Blk b) : um r (mx r b) = b := by
  unfold um mx
  by_cases hr : r < 14
  · rw [if_pos hr, if_pos hr, mixb_um b h]
  · rw [if_neg hr, if_neg hr]
theorem mx_um (r : Nat) (b : List Int) (h : Blk b) : mx r (um r b) = b := by
  unfold um mx
  by_cases hr : r < 14
  · rw [if_pos hr, if_pos hr, mixb_mu b h]
  · rw [if_neg hr, if_neg hr]
/-- one round -/
def fw (key : List Int) (r : Nat) (b : List Int) : List Int := xorl (mx r (shl16 (looked ptab b) 1)) (rk key r)
def bw (key : List Int) (r : Nat) (b : List Int) : List Int := looked btab (shl16 (um r (xorl b (rk key r))) 3)
theorem bw_blk (key : List Int) (r : Nat) (b : List Int) : Blk (bw key r b) := looked_blk _ _ bAll (shl16_len _ _)
theorem fw_blk (key : List Int) (hk : key.length = 32) (ha : AllB key) (r : Nat) (b : List Int) (h : Blk b) : Blk (fw key r b) := xorl_blk _ _ (mx_blk r _ (shl16_blk _ _ (looked_blk _ _ pAll h.1))) (rk_blk key hk ha r)
theorem bw_fw (key : List Int) (hk : key.length = 32) (ha : AllB key) (r : Nat) (b : List Int) (h : Blk b) : bw key r (fw key r b) = b := by
  have h1 := looked_blk ptab b pAll h.1
  have h2 := shl16_blk _ 1 h1
  unfold bw fw
  rw [xorl_bb _ _ (mx_blk r _ h2) (rk_blk key hk ha r), um_mx r _ h2, shl_31 _ h1.1, looked_bp b h.2]
theorem fw_bw (key : List Int) (hk : key.length = 32) (ha : AllB key) (r : Nat) (b : List Int) (h : Blk b) : fw key r (bw key r b) = b := by
  have h1 := xorl_blk b _ h (rk_blk key hk ha r)
  have h2 := um_blk r _ h1
  have h3 := shl16_blk _ 3 h2
  unfold bw fw
  rw [looked_pb _ h3.2, shl_13 _ h2.1, mx_um r _ h1, xorl_bb _ _ h (rk_blk key hk ha r)]
/-- encrypting, behind r rounds -/
def enc (key b : List Int) : Nat → List Int
  | 0 => xorl b (rk key 0)
  | r + 1 => fw key (r + 1) (enc key b r)
/-- decrypting, behind k rounds -/
def dec (key b : List Int) : Nat → List Int
  | 0 => b
  | k + 1 => bw key (14 - k) (dec key b k)
def encr (key b : List Int) : List Int := enc key b 14
def decr (key b : List Int) : List Int := xorl (dec key b 14) (rk key 0)
theorem dec_blk (key b : List Int) (h : Blk b) (k : Nat) : Blk (dec key b k) := by
  cases k with
  | zero => exact h
  | succ k => exact bw_blk key _ _
theorem enc_blk (key : List Int) (hk : key.length = 32) (ha : AllB key) (b : List Int) (h : Blk b) (r : Nat) : Blk (enc key b r) := by
  induction r with
  | zero => exact xorl_blk _ _ h (rk_blk key hk ha 0)
  | succ r ih => exact fw_blk key hk ha _ _ ih
theorem encr_blk (key : List Int) (hk : key.length = 32) (ha : AllB key) (b : List Int) (h : Blk b) : Blk (encr key b) := enc_blk key hk ha b h 14
theorem decr_blk (key : List Int) (hk : key.length = 32) (ha : AllB key) (b : List Int) (h : Blk b) : Blk (decr key b) := xorl_blk _ _ (dec_blk key b h 14) (rk_blk key hk ha 0)
theorem dec_enc (key : List Int) (hk : key.length = 32) (ha : AllB key) (b : List Int) (h : Blk b) (k : Nat) (hk14 : k ≤ 14) : dec key (encr key b) k = enc key b (14 - k) := by
  induction k with
  | zero => rfl
  | succ k ih =>
    rw [dec, ih (by omega), show 14 - k = (14 - (k + 1)) + 1 by omega, enc, bw_fw key hk ha _ _ (enc_blk key hk ha b h _)]
theorem decr_encr (key : List Int) (hk : key.length = 32) (ha : AllB key) (b : List Int) (h : Blk b) : decr key (encr key b) = b := by
  unfold decr
  rw [dec_enc key hk ha b h 14 (by omega)]
  exact xorl_bb _ _ h (rk_blk key hk ha 0)
theorem enc_dec (key : List Int) (hk : key.length = 32) (ha : AllB key) (b : List Int) (h : Blk b) (r : Nat) (hr : r ≤ 14) : enc key (decr key b) r = dec key b (14 - r) := by
  induction r with
  | zero =>
    rw [enc, decr]
    exact xorl_bb _ _ (dec_blk key b h 14) (rk_blk key hk ha 0)
  | succ r ih =>
    have e := ih (by omega)
    rw [show 14 - r = (14 - (r + 1)) + 1 by omega, dec, show 14 - (14 - (r + 1)) = r + 1 by omega] at e
    rw [enc, e, fw_bw key hk ha _ _ (dec_blk key b h _)]
theorem encr_decr (key : List Int) (hk : key.length = 32) (ha : AllB key) (b : List Int) (h : Blk b) : encr key (decr key b) = b := enc_dec key hk ha b h 14 (by omega)
end Go.Proofs.YtbkaecjkgjkheaaGreatDoor

/- How a statement is closed once its call is known to return true and to leave all that was there as it was; what an argument that is a slice of bytes holds. No claim of its own. -/
namespace Go.Proofs.YtbkaecjkgjkheaaGreatDoor
open Go.ChangeShapes Go.WideShapes Go.ChangeAt Go.RowKit
set_option maxRecDepth 20000

theorem laidOut : laidOutB Tryz.prog = true := by kernel_rfl

theorem trodAll_below {H : Type} {enc : TypeId × Value → H} {W W' : World} (hb : Below W.heap.size W W') :
    ∀ (ts : List TypeId) (vs : List Value) (ds : List (DataW H)) (ps : List MemPlace), (∀ t ∈ ts, Tryz.prog.readableRec t = true ∧ t < Tryz.prog.types.size) → (∀ x ∈ ps, x.block < W.heap.size) →
      DataW.TrodAll enc Tryz.prog W 0 (fun _ => true) true ts vs ds ps → DataW.TrodAll enc Tryz.prog W' 0 (fun b => decide (b < W.heap.size)) true ts vs ds ps
  | [], [], [], _, _, _, h => h
  | t :: ts, v :: vs, d :: ds, ps, ht, hp, h => by
    obtain ⟨p, q, h1, h2, rfl⟩ := h
    have t1 := ht t (by simp)
    exact ⟨p, q, Below.trod laidOut t1.1 t1.2 h1 hb (fun x hx => hp x (by simp [hx])), trodAll_below hb ts vs ds q (fun t h => ht t (by simp [h])) (fun x hx => hp x (by simp [hx])) h2, rfl⟩

theorem post_law {H : Type} {enc : TypeId × Value → H} {s : ChangeSpec} {f : Func} {W W' : World} {args : Array Value} {ds gs : List (DataW H)} {before : List MemPlace}
    (hv : s.vars = []) (hr : f.resultTypes = #[4]) (hts : ∀ t ∈ f.params.toList, Tryz.prog.readableRec t = true ∧ t < Tryz.prog.types.size)
    (hres : (s.fn H (ds ++ gs)).results = [.lit (.bool true)]) (hargs : (s.fn H (ds ++ gs)).args = ds) (hvars : (s.fn H (ds ++ gs)).vars = [])
    (hW : DataW.Whole enc Tryz.prog f.params.toList s.vars false W args.toList ds gs before) (hb : Below W.heap.size W W') :
    s.post enc Tryz.prog f false true false false W args (.bool true) W' := by
  have hW' := hW
  have hlt := hW.lt
  obtain ⟨p, q, hA, hV, hpq, hfz, hnd⟩ := hW
  refine ⟨ds, gs, before, [], p, [], hW', ?_, ?_, ?_, hb.frame _, fun h => by cases h⟩
  · rw [hres, hr]
    exact trodAll_mk1 (shut_bool Tryz.underlying4 _)
  · rw [hargs]
    exact trodAll_below hb _ _ _ _ hts (fun x hx => by simpa using hlt x (by rw [hpq]; simp [hx])) hA
  · rw [hvars, hv]; rfl

set_option maxRecDepth 20000 in
/-- an argument that is a slice of bytes holds bytes -/
theorem byt_open {H : Type} {enc : TypeId × Value → H} {W : World} {base : Nat} {v : Value} {d : DataW H} {ps : List MemPlace}
    (ok : Value.okWide Tryz.prog W .any base 22 v) (h : DataW.Trod enc Tryz.prog W 0 (fun _ => true) true 22 v d ps) : ∃ xs, Byt W v xs := by
  obtain ⟨a0, len, cap, rfl⟩ := okWide_slice Tryz.underlying22 ok
  obtain ⟨fuel, hf⟩ := h
  rcases open_ints Tryz.underlying22 Tryz.underlying5 cells_u8 hf with ⟨hcs, hx⟩ | ⟨a, len', cap', zs, hcs, _, hl, hm, hz, hx, hcell, hwz⟩
  · simp [Value.cells] at hcs
    obtain ⟨rfl, rfl, rfl⟩ := hcs
    exact ⟨[], Byt.nil W⟩
  · simp [Value.cells] at hcs
    obtain ⟨rfl, rfl, rfl⟩ := hcs
    simp at hz
    have hlen : (zs.take len).length = len := by simp; omega
    have hgb : ∀ t, t < len → gb (zs.take len) t = zs.getD t 0 := fun t ht => by simp [gb, List.getD, ht]
    refine ⟨zs.take len, some a, cap, by rw [hlen], by omega, by simpa [maxLen] using hm, allB_mem fun x hx => bounds_u8 (hwz x (List.mem_of_mem_take hx)), (by intro h; cases h), fun hp => ?_⟩
    obtain ⟨b, off, rfl, hc⟩ := ints_at hcell (by omega)
    refine ⟨b, off, rfl, fun t ht => ?_⟩
    rw [hgb t (by omega)]
    exact hc t (by omega)
theorem nat_of {x : Int} (h : 0 ≤ x ∧ x ≤ 255) : ∃ a : Nat, x = a ∧ a < 256 := ⟨x.toNat, by omega, by omega⟩
end Go.Proofs.YtbkaecjkgjkheaaGreatDoor

/- What sbox's Subs and Backs answer; that the program answers at all. No claim of its own. -/
namespace Go.Proofs.YtbkaecjkgjkheaaGreatDoor
open Go.RowKit
set_option maxRecDepth 20000

theorem ptab_allB : AllB ptab := allB_mem fun x hx => by
  have h : ptab.all (fun x => decide (0 ≤ x ∧ x ≤ 255)) = true := by decide +kernel
  simpa using List.all_eq_true.1 h x hx
theorem btab_allB : AllB btab := allB_mem fun x hx => by
  have h : btab.all (fun x => decide (0 ≤ x ∧ x ≤ 255)) = true := by decide +kernel
  simpa using List.all_eq_true.1 h x hx

set_option maxHeartbeats 2000000 in
theorem subs_any (v : Value) (xs : List Int) (w : World) (hv : Byt w v xs) (hmax : xs.length ≤ 1048576) :
    Calls Tryz.prog 67 #[v] w fun e w' => ∃ v', e = .returned v' ∧ Byt w' v' (looked ptab xs) ∧ Below w.heap.size w w' := by
  have HV : Hid (Byt w v xs) := hv
  have HM : Hid (xs.length ≤ 1048576) := hmax
  clear hv hmax
  go_enter Tryz.func67, Tryz.ntmps67
  go_wp2_with (first
    | (go_at_call 98; refine (look_any v xs ptab _ (HV.out.below B1) ptab_len ptab_allB HM.out).mono ?_; rintro e w2 ⟨v2, rfl, Y2, B2⟩)
    | (go_at_call 99; refine (puts_any _).mono ?_; rintro e w1 ⟨rfl, B1⟩))
  go_ret
  exact ⟨_, rfl, Y2, B1.trans (B2.mono B1.size)⟩

set_option maxHeartbeats 2000000 in
theorem backsl_any (v : Value) (xs : List Int) (w : World) (hv : Byt w v xs) (hmax : xs.length ≤ 1048576) :
    Calls Tryz.prog 90 #[v] w fun e w' => ∃ v', e = .returned v' ∧ Byt w' v' (looked btab xs) ∧ Below w.heap.size w w' := by
  have HV : Hid (Byt w v xs) := hv
  have HM : Hid (xs.length ≤ 1048576) := hmax
  clear hv hmax
  go_enter Tryz.func90, Tryz.ntmps90
  go_wp2_with (first
    | (go_at_call 98; refine (look_any v xs btab _ (HV.out.below B1) btab_len btab_allB HM.out).mono ?_; rintro e w2 ⟨v2, rfl, Y2, B2⟩)
    | (go_at_call 115; refine (backs_any _).mono ?_; rintro e w1 ⟨rfl, B1⟩))
  go_ret
  exact ⟨_, rfl, Y2, B1.trans (B2.mono B1.size)⟩

theorem sb_83 : sb 83 = 237 := by decide +kernel
theorem sk_237 : sk 237 = 83 := by decide +kernel
end Go.Proofs.YtbkaecjkgjkheaaGreatDoor

