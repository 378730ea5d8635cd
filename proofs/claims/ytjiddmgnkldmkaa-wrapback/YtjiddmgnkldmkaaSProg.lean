/- What sbox's tables, Sub, Back, Subs, Backs answer. No claim of its own. -/
import Derived.Test.YtjiddmgnkldmkaaSMath
import Derived.Deep.RegionWith
namespace Go.Proofs.Ytjiddmgnkldmkaa
open Go.RowKit

/-- noughts -/
def z256 : List Int := List.replicate 256 0
theorem z256_len : z256.length = 256 := List.length_replicate
theorem z_arr256 : (Try.prog.info? 82).map (fun i => (i.zero, i.size)) = some (some (.agg (ints .u8 z256)), z256.length) := by kernel_rfl
theorem i_arr256 : (Try.prog.info? 82).map (·.size) = some 256 := by kernel_rfl

set_option maxRecDepth 100000 in
set_option maxHeartbeats 2000000 in
theorem puts_any (w : World) :
    Calls Try.prog 74 #[] w fun e w' => e = .returned (.agg (ints .u8 ptab)) ∧ Below w.heap.size w w' := by
  go_enter Try.func74, Try.ntmps74
  go_wp2_with (first
    | (refine new_lawF _ rfl 82 rfl .u8 z256 z_arr256 ?_; intro w1 A1 B1 s1)
    | (refine build_law _ rfl 82 _ rfl (.agg (ints .u8 ptab)) (by kernel_rfl) ?_)
    | (refine store_lawF _ rfl (.tmp 0) (.tmp 1) 82 rfl .u8 z256 ptab w.heap.size rfl rfl A1 256 i_arr256 z256_len ptab_len ?_; intro w2 A2 B2))
  refine bodyPost_ret (v := .agg (ints .u8 ptab)) (results_ar rfl _ _ w.heap.size 0 .u8 ptab rfl A2 256 5 Try.underlying82 i_arr256 ptab_len) rfl ⟨rfl, ?_⟩
  exact B1.trans B2

set_option maxRecDepth 100000 in
set_option maxHeartbeats 2000000 in
theorem backs_any (w : World) :
    Calls Try.prog 78 #[] w fun e w' => e = .returned (.agg (ints .u8 btab)) ∧ Below w.heap.size w w' := by
  go_enter Try.func78, Try.ntmps78
  go_wp2_with (first
    | (refine new_lawF _ rfl 82 rfl .u8 z256 z_arr256 ?_; intro w1 A1 B1 s1)
    | (refine build_law _ rfl 82 _ rfl (.agg (ints .u8 btab)) (by kernel_rfl) ?_)
    | (refine store_lawF _ rfl (.tmp 0) (.tmp 1) 82 rfl .u8 z256 btab w.heap.size rfl rfl A1 256 i_arr256 z256_len btab_len ?_; intro w2 A2 B2))
  refine bodyPost_ret (v := .agg (ints .u8 btab)) (results_ar rfl _ _ w.heap.size 0 .u8 btab rfl A2 256 5 Try.underlying82 i_arr256 btab_len) rfl ⟨rfl, ?_⟩
  exact B1.trans B2

/-- an element of a table of 256 -/
theorem idx256 {ops : Array Oper} {rest : List Oper} {o : Oper} {a : Act} {Q : Exit → Act → World → Prop} (w : World) (hg : o.guard = none) (x y : Operand) (hop : o.op = Op.index 82 x y) (xs : List Int) (i : Nat) (hx : a.eval x = .agg (ints .u8 xs)) (hy : a.eval y = .int .u8 i) (hl : xs.length = 256) (hi : i < 256)
    (q : Int) (hq : q = gb xs i) (hK : wpList Try.prog ops Q rest (a.put o.dst (.int .u8 q)) w) : wpList Try.prog ops Q (o :: rest) a w := by
  subst hq
  refine wpList_plain hg fun K hK' => ?_
  have e : (ints .u8 xs)[i]? = some (.int .u8 (gb xs i)) := by simp [ints, gb, List.getD, show i < xs.length by omega]
  have hu := Try.underlying82
  have hu2 := Try.underlying5
  have hsz : (ints .u8 xs).size = 256 := by simp [ints, hl]
  have hr : (Instr.index 82 (.agg (ints .u8 xs)) (.int .u8 i)).run Try.prog w = .ok (.int .u8 (gb xs i)) w := by
    simp [Instr.index, asIntOf, run_underlying hu, run_underlying hu2, Go.part, isAgg, e]
    intro h; omega
  unfold Oper.wp execOp
  simp only [hop, hx, hy, Sem.run_bind, Sem.run_pure, Result.andThen_ok, hr]
  exact hK' _ _ hK

/-- what a table has for each byte -/
def looked (tab xs : List Int) : List Int := xs.map fun x => gb tab x.toNat
theorem looked_len (tab xs : List Int) : (looked tab xs).length = xs.length := by simp [looked]
theorem looked_gb (tab xs : List Int) (k : Nat) (hk : k < xs.length) : gb (looked tab xs) k = gb tab (gb xs k).toNat := by
  simp only [looked, gb, List.getD, List.getElem?_map, List.getElem?_eq_getElem hk, Option.map_some, Option.getD_some]
theorem looked_all (tab xs : List Int) (h : AllB tab) : AllB (looked tab xs) := allB_mem fun x hx => by
  obtain ⟨y, _, rfl⟩ := List.mem_map.1 hx
  exact h _
/-- zs, filled as far as place k -/
def filled (zs : List Int) (k : Nat) : List Int := zs.take k ++ List.replicate (zs.length - k) 0
theorem filled_zero (zs : List Int) : filled zs 0 = List.replicate zs.length 0 := by simp [filled]
theorem filled_end (zs : List Int) : filled zs zs.length = zs := by simp [filled]
theorem filled_set (zs : List Int) (k : Nat) (h : k < zs.length) : (filled zs k).set k (gb zs k) = filled zs (k + 1) := by
  unfold filled
  obtain ⟨d, hd⟩ : ∃ d, zs.length - k = d + 1 := ⟨zs.length - k - 1, by omega⟩
  have e : zs.length - (k + 1) = d := by omega
  have hm : min k zs.length = k := by omega
  rw [hd, e, List.set_append_right _ _ (by simp; omega), List.take_succ_eq_append_getElem h, List.append_assoc]
  simp only [List.length_take, hm, Nat.sub_self, List.replicate_succ, List.set_cons_zero, gb, List.getD, List.getElem?_eq_getElem h, Option.getD_some, List.cons_append, List.nil_append]

set_option maxRecDepth 20000 in
set_option maxHeartbeats 4000000 in
theorem look_any (v : Value) (xs tab : List Int) (w : World) (hv : Byt w v xs) (ht : tab.length = 256) (hta : AllB tab) (hmax : xs.length ≤ 1048576) :
    Calls Try.prog 73 #[v, .agg (ints .u8 tab)] w fun e w' => ∃ v', e = .returned v' ∧ Byt w' v' (looked tab xs) ∧ Below w.heap.size w w' := by
  obtain ⟨ao, ca, rfl, ha1, ha2, ha3, -, ha5⟩ := hv
  have HA5 : Hid (0 < xs.length → ∃ b off, ao = some ⟨b, off, none⟩ ∧ ∀ t, t < xs.length → w.cell? ⟨b, off + t, none⟩ = some (.int .u8 (gb xs t))) := ha5
  have HA : Hid (AllB xs) := ha3
  have HT : Hid (tab.length = 256) := ht
  have HTA : Hid (AllB tab) := hta
  have HG : Hid (∀ k, k < xs.length → gb (looked tab xs) k = gb tab (gb xs k).toNat) := fun k hk => looked_gb tab xs k hk
  have HZ : Hid ((looked tab xs).length = xs.length) := looked_len tab xs
  have HZA : Hid (AllB (looked tab xs)) := looked_all tab xs hta
  generalize looked tab xs = zs at *
  clear ha5 ha3 ht hta
  go_enter Try.func73, Try.ntmps73
  go_wp2_with (first
    | (refine box_lawF _ rfl (.tmp 1) 82 rfl .u8 tab rfl ?_; intro w1 A1 B1 s1; have HA1 : Hid (Ar w1 w.heap.size 0 .u8 tab) := A1; clear A1)
    | (at_make; refine make_law _ rfl (.tmp 9) (.tmp 9) rfl w1.heap.size (Nat.le_refl _) _ xs.length rfl rfl rfl (by omega) ?_; intro w2 hown hbel hlt))
  generalize hg1 : w1.heap.size = g1 at *
  go_loopw [13] (fun i wr => ∃ k : Nat, k ≤ xs.length ∧ i = .int .i64 k ∧ OwnN g1 wr g1 xs.length (filled zs k) ∧ Below g1 w1 wr) (fun i _ => xs.length - (intOf i).toNat)
  case atStart => exact ⟨0, Nat.zero_le _, rfl, by rw [filled_zero, HZ.out]; exact hown, hbel⟩
  case round =>
    clear hown hbel
    obtain ⟨k, hk, rfl, hown, hbel⟩ := hrel
    have BW : Below w.heap.size w wr := B1.trans (hbel.mono (by omega))
    by_cases hlt' : k < xs.length
    · obtain ⟨b, off, rfl, hca⟩ := HA5.out (by omega)
      have n1 := World.block_lt_of_cell? w _ (hca k hlt')
      have c1 : wr.cell? ⟨b, off + k, none⟩ = some (.int .u8 (gb xs k)) := (BW.cell n1).trans (hca k hlt')
      obtain ⟨x, hx⟩ : ∃ x : Nat, gb xs k = (x : Int) := ⟨(gb xs k).toNat, by have := HA.out k; omega⟩
      have hx8 : x < 256 := by have := HA.out k; omega
      rw [hx] at c1
      have c2 := (HA1.out.below hbel s1).cell0 x (by rw [HT.out]; exact hx8)
      have lk : (k : Int) < (xs.length : Int) := by omega
      have lk0 : (0 : Int) ≤ (k : Int) := by omega
      have x0 : (0 : Int) ≤ (x : Int) := by omega
      have x1 : (x : Int) < 256 := by omega
      have c3 := hown.cell hlt'
      have c4 := hown.free k
      have hgz : gb zs k = gb tab x := by rw [HG.out k hlt', hx, Int.toNat_natCast]
      have hown' : Hid (OwnN g1 (wr.setCell ⟨g1, k, none⟩ (.int .u8 (gb tab x))) g1 xs.length (filled zs (k + 1))) := by
        have h := hown.set k (gb zs k)
        rw [filled_set _ k (by rw [HZ.out]; exact hlt'), hgz] at h
        exact h
      have hb' : Hid (Below g1 w1 (wr.setCell ⟨g1, k, none⟩ (.int .u8 (gb tab x)))) := hbel.setCell (Nat.le_refl _) _
      clear hca hx hgz hx8
      generalize gb tab x = y at *
      go_wp2
      go_roundw
      case rel => exact ⟨k + 1, by omega, by go_num, hown'.out, hb'.out⟩
      case measure => simp [intOf]; omega
    · have hks : k = xs.length := by omega
      subst hks
      have hown2 : OwnN g1 wr g1 xs.length zs := by
        have := hown; rw [← HZ.out, filled_end, HZ.out] at this; exact this
      go_wp2
      go_ret
      exact ⟨_, rfl, hown2.byt HZA.out, BW⟩
end Go.Proofs.Ytjiddmgnkldmkaa
