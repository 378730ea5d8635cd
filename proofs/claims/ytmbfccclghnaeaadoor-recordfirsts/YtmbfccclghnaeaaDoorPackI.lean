/- Texts put together (a claim holds few files). No claim of its own. -/
import Derived.Test.YtmbfccclghnaeaaDoorPackD
import Derived.Test.YtmbfccclghnaeaaDoorPackH
import Derived.Test.YtmbfccclghnaeaaDoorPackC
import Derived.Deep.RegionHeld3
/- Worlds that part in bytes of some blocks alone; a right slot's bytes, read; the reference's. No claim of its own. -/
namespace Go.Proofs.YtmbfccclghnaeaaDoor.so
open Go.RowKit Go.Proofs.YtmbfccclghnaeaaDoor.fa Go.Proofs.YtmbfccclghnaeaaDoor.he
set_option maxRecDepth 20000

/-- from w to w' bytes alone were written, in blocks from B on, below H -/
def Wr (B H : Nat) (w w' : World) : Prop := Below B w w' ∧ (∀ k, H ≤ k → w'.heap[k]? = w.heap[k]?) ∧ (∀ p v, w.cell? p = some v → (∀ x, v ≠ .int .u8 x) → w'.cell? p = some v) ∧
  (∀ p x, w.cell? p = some (.int .u8 x) → ∃ y, w'.cell? p = some (.int .u8 y)) ∧ ∀ p, w'.frozen? p = w.frozen? p
theorem Wr.refl (B H : Nat) (w : World) : Wr B H w w := ⟨Below.refl _ _, fun _ _ => rfl, fun _ _ h _ => h, fun _ x h => ⟨x, h⟩, fun _ => rfl⟩
theorem Wr.set {B H : Nat} {w w' : World} (h : Wr B H w w') {b o : Nat} {x : Int} (hc : w'.cell? ⟨b, o, none⟩ = some (.int .u8 x)) (hB : B ≤ b) (hH : b < H) (y : Int) : Wr B H w (w'.setCell ⟨b, o, none⟩ (.int .u8 y)) := by
  obtain ⟨h1, h2, h3, h4, h5⟩ := h
  refine ⟨h1.setCell hB _, fun k hk => ?_, fun p v hv hn => ?_, fun p z hz => ?_, fun p => by rw [World.frozen?_setCell]; exact h5 p⟩
  · rw [Below.heap_setCell w' ⟨b, o, none⟩ _ k (by show k ≠ b; omega)]; exact h2 k hk
  · have hv' := h3 p v hv hn
    rw [World.cell?_setCell_other _ _ _ _ (by intro e; rw [e] at hc; rw [hc] at hv'; injection hv' with hv'; exact hn _ hv'.symm)]
    exact hv'
  · by_cases e : p = ⟨b, o, none⟩
    · subst e
      exact ⟨y, World.cell?_setCell_same _ _ _ hc⟩
    · obtain ⟨u, hu⟩ := h4 p z hz
      exact ⟨u, by rw [World.cell?_setCell_other _ _ _ _ (fun q => e q.symm)]; exact hu⟩
/-- bytes from H on stay -/
theorem Wr.bow {B H : Nat} {w w' : World} (h : Wr B H w w') {v : Value} {xs : List Int} (hv : Bow H w v xs) : Byt w' v xs := by
  obtain ⟨hy, ho⟩ := hv
  obtain ⟨ao, cap, rfl, h1, h2, h3, h4, h5⟩ := hy
  refine ⟨ao, cap, rfl, h1, h2, h3, h4, fun hp => ?_⟩
  obtain ⟨b, off, rfl, hc⟩ := h5 hp
  obtain ⟨b', off', cap', e, hB, _⟩ := ho hp
  cases e
  exact ⟨b, off, rfl, fun t ht => by rw [World.cell?_of_block (w := w) (w' := w') (a := ⟨b, off + t, none⟩) (h.2.1 b hB)]; exact hc t ht⟩
/-- a byte that may be written -/
theorem Wr.byte {B H : Nat} {w w' : World} (h : Wr B H w w') {co : Option Addr} {n cc : Nat} {xs : List Int} (hv : Bow B w (.slice co n cc) xs) (k : Nat) (hk : k < xs.length) : ∃ b off y, co = some ⟨b, off, none⟩ ∧ w'.cell? ⟨b, off + k, none⟩ = some (.int .u8 y) ∧ w'.frozen? ⟨b, off + k, none⟩ = false := by
  obtain ⟨hy, ho⟩ := hv
  obtain ⟨ao, cap, e, h1, h2, h3, h4, h5⟩ := hy
  cases e
  obtain ⟨b, off, rfl, hc⟩ := h5 (by omega)
  obtain ⟨b', off', cap', e, hB, hf⟩ := ho (by omega)
  cases e
  obtain ⟨y, hy⟩ := h.2.2.2.1 _ _ (hc k hk)
  exact ⟨b, off, y, rfl, hy, by rw [h.2.2.2.2]; exact hf k hk⟩
/-- where such bytes lie -/
theorem bow_at {B : Nat} {w : World} {co : Option Addr} {n cc : Nat} {xs : List Int} (hv : Bow B w (.slice co n cc) xs) (hp : 0 < xs.length) : ∃ b off, co = some ⟨b, off, none⟩ ∧ B ≤ b ∧ b < w.heap.size := by
  obtain ⟨hy, ho⟩ := hv
  obtain ⟨ao, cap, e, h1, h2, h3, h4, h5⟩ := hy
  cases e
  obtain ⟨b, off, rfl, hc⟩ := h5 hp
  obtain ⟨b', off', cap', e, hB, hf⟩ := ho hp
  cases e
  exact ⟨b, off, rfl, hB, World.block_lt_of_cell? w _ (hc 0 hp)⟩
theorem byt_low {B : Nat} {w w' : World} {g o n c : Nat} {xs : List Int} (h : Byt w (.slice (some ⟨g, o, none⟩) n c) xs) (hg : g < B) (hb : Below B w w') : Byt w' (.slice (some ⟨g, o, none⟩) n c) xs := by
  obtain ⟨ao, cap, e, h1, h2, h3, h4, h5⟩ := h
  cases e
  refine ⟨_, _, rfl, h1, h2, h3, h4, fun hp => ?_⟩
  obtain ⟨b, off, e', hc⟩ := h5 hp
  cases e'
  exact ⟨g, o, rfl, fun t ht => by rw [World.cell?_of_block (w := w) (w' := w') (a := ⟨g, o + t, none⟩) (hb.block g hg)]; exact hc t ht⟩
theorem byt_lt {w : World} {g o n c : Nat} {xs : List Int} (h : Byt w (.slice (some ⟨g, o, none⟩) n c) xs) (hp : 0 < xs.length) : g < w.heap.size := by
  obtain ⟨ao, cap, e, h1, h2, h3, h4, h5⟩ := h
  cases e
  obtain ⟨b, off, e', hc⟩ := h5 hp
  cases e'
  exact World.block_lt_of_cell? w _ (hc 0 hp)
/-- a right slot's bytes are read as it was -/
theorem read_sb (u : Bool) (n e t : Int) (xs : List Int) (v : Value) (w : World) (hS : Sb n e t) (ha : AllB xs) (hr : Rs u n e t xs) (hb : Byt w v (so.sb u n e t xs)) (hT : Tbl w) :
    Calls Tryd.prog 38 #[v] w fun x w' => ∃ yo yc, x = .returned (.tuple #[.agg (sv u n e t (.slice yo xs.length yc)).toArray, .int .i64 0]) ∧ Byt w' (.slice yo xs.length yc) xs ∧ Below w.heap.size w w' := by
  have hl := sb_len hr
  cases u
  · obtain ⟨h1, h2, h3, h4⟩ : n = 0 ∧ e = 0 ∧ t = 0 ∧ xs.length = 0 := hr
    subst h1 h2 h3
    have hx : xs = [] := List.eq_nil_of_length_eq_zero h4
    subst hx
    exact (read_free v w hb hT).mono fun _ w' ⟨a, b⟩ => ⟨none, 0, a, Byt.nil w', b⟩
  · obtain ⟨h1, h2, h3⟩ : 1 ≤ n ∧ n ≤ 65535 ∧ xs.length = 104 := hr
    have hb : Byt w v (sbt n e t xs) := hb
    have g := g_sbt (ws := xs) (n := n) (e := e) (t := t) ⟨by omega, by omega⟩ hS.2.1 hS.2.2 h3
    have z := read_yes v _ w hb hl hT ⟨rfl, rfl, rfl, rfl, by rw [g.1]; exact h1, by rw [g.1]; exact h2⟩
    rw [g.1, g.2.1, g.2.2.1, g.2.2.2] at z
    rw [h3]
    exact z
theorem rbytes_sb (u : Bool) (n e t : Int) (v : Value) (xs : List Int) (w : World) (hv : Byt w v xs) (hS : Sb n e t) (hr : Rs u n e t xs) :
    Calls Tryd.prog 41 #[.agg (sv u n e t v).toArray] w fun x w' => ∃ r, x = .returned r ∧ Byt w' r (so.sb u n e t xs) ∧ Below w.heap.size w w' := by
  cases u
  · exact rbytes_free n e t v w
  · obtain ⟨h1, h2, h3⟩ : 1 ≤ n ∧ n ≤ 65535 ∧ xs.length = 104 := hr
    exact rbytes_used n e t v xs w hv hS ⟨h1, h2⟩ h3
end Go.Proofs.YtmbfccclghnaeaaDoor.so

/- A record's bytes as a list. No claim of its own. -/
namespace Go.Proofs.YtmbfccclghnaeaaDoor.re
open Go.RowKit Go.Proofs.YtmbfccclghnaeaaDoor.fa Go.Proofs.YtmbfccclghnaeaaDoor.he Go.Proofs.YtmbfccclghnaeaaDoor.so
set_option maxRecDepth 20000

/-- a slot as data: used, size, epoch, counter, wrapped -/
structure Sl where
  u : Bool
  n : Int
  e : Int
  t : Int
  ws : List Int
def Sl.ok (s : Sl) : Prop := Rs s.u s.n s.e s.t s.ws
def Sl.bs (s : Sl) : List Int := so.sb s.u s.n s.e s.t s.ws
/-- the slot that is not used -/
def sl0 : Sl := ⟨false, 0, 0, 0, []⟩
theorem sl0_ok : sl0.ok := ⟨rfl, rfl, rfl, rfl⟩
theorem Sl.len {s : Sl} (h : s.ok) : s.bs.length = 128 := sb_len h
theorem Sl.all {s : Sl} (h : AllB s.ws) : AllB s.bs := sb_all h
/-- a record as data: generation, epoch, salt, bad blocks, check, four slots -/
structure Rc where
  g : Int
  p : Int
  st : List Int
  bd : Int
  ck : List Int
  s0 : Sl
  s1 : Sl
  s2 : Sl
  s3 : Sl
/-- a record may be -/
def Rc.ok (r : Rc) : Prop := r.st.length = 16 ∧ r.ck.length = 32 ∧ r.s0.ok ∧ r.s1.ok ∧ r.s2.ok ∧ r.s3.ok
/-- its numbers are of 64 bits -/
def U64 (x : Int) : Prop := 0 ≤ x ∧ x ≤ 18446744073709551615
/-- its bytes without the tag, by parts -/
def Rc.ps (r : Rc) : List (List Int) := [be r.g 8, be r.p 8, r.st, be r.bd 8, List.replicate 8 0, r.ck, r.s0.bs, r.s1.bs, r.s2.bs, r.s3.bs]
def Rc.bs (r : Rc) : List Int := r.ps.flatten
theorem Rc.len {r : Rc} (h : r.ok) : r.bs.length = 592 := by
  obtain ⟨h1, h2, h3, h4, h5, h6⟩ := h
  simp [Rc.bs, Rc.ps, be_len, h1, h2, Sl.len h3, Sl.len h4, Sl.len h5, Sl.len h6]
theorem Rc.all {r : Rc} (h1 : AllB r.st) (h2 : AllB r.ck) (h3 : AllB r.s0.ws) (h4 : AllB r.s1.ws) (h5 : AllB r.s2.ws) (h6 : AllB r.s3.ws) : AllB r.bs := by
  have z : AllB (List.replicate 8 (0 : Int)) := allB_replicate 0 8 (by omega)
  have n : AllB ([] : List Int) := allB_mem fun x hx => by cases hx
  exact allB_app (be_all _ _) (allB_app (be_all _ _) (allB_app h1 (allB_app (be_all _ _) (allB_app z (allB_app h2 (allB_app (Sl.all h3) (allB_app (Sl.all h4) (allB_app (Sl.all h5) (allB_app (Sl.all h6) n)))))))))
/-- a part of parts that lie one behind the other -/
theorem sub_mid (a b c : List Int) (l h : Nat) (hl : a.length = l) (hh : l + b.length = h) : sub (a ++ (b ++ c)) l h = b := sub_at a b c l h hl hh
/-- what stands where in a record's bytes -/
theorem Rc.subs {r : Rc} (h : r.ok) (tg : List Int) : sub (r.bs ++ tg) 0 8 = be r.g 8 ∧ sub (r.bs ++ tg) 8 16 = be r.p 8 ∧ sub (r.bs ++ tg) 16 32 = r.st ∧ sub (r.bs ++ tg) 32 40 = be r.bd 8 ∧ sub (r.bs ++ tg) 40 48 = List.replicate 8 0 ∧ sub (r.bs ++ tg) 48 80 = r.ck ∧
    sub (r.bs ++ tg) 80 208 = r.s0.bs ∧ sub (r.bs ++ tg) 208 336 = r.s1.bs ∧ sub (r.bs ++ tg) 336 464 = r.s2.bs ∧ sub (r.bs ++ tg) 464 592 = r.s3.bs := by
  obtain ⟨h1, h2, h3, h4, h5, h6⟩ := h
  have l1 := Sl.len h3
  have l2 := Sl.len h4
  have l3 := Sl.len h5
  have l4 := Sl.len h6
  have q1 := be_len r.g 8
  have q2 := be_len r.p 8
  have q3 := be_len r.bd 8
  have q4 : (List.replicate 8 (0 : Int)).length = 8 := List.length_replicate
  have e : r.bs ++ tg = be r.g 8 ++ (be r.p 8 ++ (r.st ++ (be r.bd 8 ++ (List.replicate 8 0 ++ (r.ck ++ (r.s0.bs ++ (r.s1.bs ++ (r.s2.bs ++ (r.s3.bs ++ tg))))))))) := by
    simp [Rc.bs, Rc.ps]
  rw [e]
  generalize be r.g 8 = a0 at *
  generalize be r.p 8 = a1 at *
  generalize be r.bd 8 = a3 at *
  generalize List.replicate 8 (0 : Int) = a4 at *
  generalize r.s0.bs = a6 at *
  generalize r.s1.bs = a7 at *
  generalize r.s2.bs = a8 at *
  generalize r.s3.bs = a9 at *
  generalize r.st = a2 at *
  generalize r.ck = a5 at *
  clear e h3 h4 h5 h6
  have d : ∀ (x y : List Int) (n l k : Nat), x.length = n → n ≤ l → sub (x ++ y) l k = sub y (l - n) (k - n) := fun x y n l k hx hl => by
    subst hx
    unfold sub
    rw [List.take_append, List.drop_append, List.drop_of_length_le (by simp; omega), List.nil_append, List.length_take]
    by_cases hk : x.length ≤ k
    · rw [Nat.min_eq_right hk]
    · rw [show k - x.length = 0 by omega]
      simp
  have f : ∀ (x y : List Int) (n : Nat), x.length = n → sub (x ++ y) 0 n = x := fun x y n hx => by
    subst hx
    unfold sub
    rw [List.drop_zero, List.take_left]
  refine ⟨f _ _ _ q1, ?_, ?_, ?_, ?_, ?_, ?_, ?_, ?_, ?_⟩
  · rw [d _ _ 8 _ _ q1 (by omega)]; exact f _ _ _ q2
  · rw [d _ _ 8 _ _ q1 (by omega), d _ _ 8 _ _ q2 (by omega)]; exact f _ _ _ h1
  · rw [d _ _ 8 _ _ q1 (by omega), d _ _ 8 _ _ q2 (by omega), d _ _ 16 _ _ h1 (by omega)]; exact f _ _ _ q3
  · rw [d _ _ 8 _ _ q1 (by omega), d _ _ 8 _ _ q2 (by omega), d _ _ 16 _ _ h1 (by omega), d _ _ 8 _ _ q3 (by omega)]; exact f _ _ _ q4
  · rw [d _ _ 8 _ _ q1 (by omega), d _ _ 8 _ _ q2 (by omega), d _ _ 16 _ _ h1 (by omega), d _ _ 8 _ _ q3 (by omega), d _ _ 8 _ _ q4 (by omega)]; exact f _ _ _ h2
  · rw [d _ _ 8 _ _ q1 (by omega), d _ _ 8 _ _ q2 (by omega), d _ _ 16 _ _ h1 (by omega), d _ _ 8 _ _ q3 (by omega), d _ _ 8 _ _ q4 (by omega), d _ _ 32 _ _ h2 (by omega)]; exact f _ _ _ l1
  · rw [d _ _ 8 _ _ q1 (by omega), d _ _ 8 _ _ q2 (by omega), d _ _ 16 _ _ h1 (by omega), d _ _ 8 _ _ q3 (by omega), d _ _ 8 _ _ q4 (by omega), d _ _ 32 _ _ h2 (by omega), d _ _ 128 _ _ l1 (by omega)]; exact f _ _ _ l2
  · rw [d _ _ 8 _ _ q1 (by omega), d _ _ 8 _ _ q2 (by omega), d _ _ 16 _ _ h1 (by omega), d _ _ 8 _ _ q3 (by omega), d _ _ 8 _ _ q4 (by omega), d _ _ 32 _ _ h2 (by omega), d _ _ 128 _ _ l1 (by omega), d _ _ 128 _ _ l2 (by omega)]; exact f _ _ _ l3
  · rw [d _ _ 8 _ _ q1 (by omega), d _ _ 8 _ _ q2 (by omega), d _ _ 16 _ _ h1 (by omega), d _ _ 8 _ _ q3 (by omega), d _ _ 8 _ _ q4 (by omega), d _ _ 32 _ _ h2 (by omega), d _ _ 128 _ _ l1 (by omega), d _ _ 128 _ _ l2 (by omega), d _ _ 128 _ _ l3 (by omega)]; exact f _ _ _ l4
theorem Rc.take {r : Rc} (h : r.ok) (tg : List Int) : (r.bs ++ tg).take 592 = r.bs ∧ (r.bs ++ tg).drop 592 = tg := by
  have := Rc.len h
  exact ⟨List.take_left' this, List.drop_left' this⟩
/-- what the bytes of a record tell -/
def qg (xs : List Int) : Int := num (last8 (sub xs 0 8))
def qp (xs : List Int) : Int := num (last8 (sub xs 8 16))
def qs (xs : List Int) : List Int := sub xs 16 32
def qb (xs : List Int) : Int := num (last8 (sub xs 32 40))
def qz (xs : List Int) : Int := num (last8 (sub xs 40 48))
def qc (xs : List Int) : List Int := sub xs 48 80
/-- the i-th slot's bytes -/
def qw (xs : List Int) (i : Nat) : List Int := sub xs (80 + 128 * i) (208 + 128 * i)
theorem q_bs {r : Rc} (h : r.ok) (hg : U64 r.g) (hp : U64 r.p) (hb : U64 r.bd) (tg : List Int) : qg (r.bs ++ tg) = r.g ∧ qp (r.bs ++ tg) = r.p ∧ re.qs (r.bs ++ tg) = r.st ∧ qb (r.bs ++ tg) = r.bd ∧ qz (r.bs ++ tg) = 0 ∧ re.qc (r.bs ++ tg) = r.ck ∧
    qw (r.bs ++ tg) 0 = r.s0.bs ∧ qw (r.bs ++ tg) 1 = r.s1.bs ∧ qw (r.bs ++ tg) 2 = r.s2.bs ∧ qw (r.bs ++ tg) 3 = r.s3.bs := by
  obtain ⟨e0, e1, e2, e3, e4, e5, e6, e7, e8, e9⟩ := Rc.subs h tg
  refine ⟨?_, ?_, e2, ?_, ?_, e5, e6, e7, e8, e9⟩
  · unfold qg; rw [e0, num_be8 _ hg]
  · unfold qp; rw [e1, num_be8 _ hp]
  · unfold qb; rw [e3, num_be8 _ hb]
  · unfold qz; rw [e4]; rfl
theorem qz_zero {xs : List Int} (hl : xs.length = 624) (ha : AllB xs) : qz xs = 0 ↔ sub xs 40 48 = List.replicate 8 0 := by
  have z := be_num8 (xs := sub xs 40 48) (by rw [sub_len _ _ _ (by omega)]) (allB_sub ha 40 48)
  constructor
  · intro h
    rw [← z.1]
    show be (qz xs) 8 = _
    rw [h]; rfl
  · intro h
    unfold qz; rw [h]; rfl
/-- bytes of a slot: of one that is not used, or of one that is -/
def Sw (xs : List Int) : Prop := xs = List.replicate 128 0 ∨ (gb xs 0 = 1 ∧ gb xs 1 = 0 ∧ gb xs 2 = 0 ∧ gb xs 3 = 0 ∧ 1 ≤ gn xs ∧ gn xs ≤ 65535)
end Go.Proofs.YtmbfccclghnaeaaDoor.re

/- A record as a value; its place in memory; what an argument that is a record holds. No claim of its own. -/
namespace Go.Proofs.YtmbfccclghnaeaaDoor.re
open Go.ChangeShapes Go.WideShapes Go.ChangeAt Go.RowKit Go.Proofs.YtmbfccclghnaeaaDoor.fa Go.Proofs.YtmbfccclghnaeaaDoor.he Go.Proofs.YtmbfccclghnaeaaDoor.so
set_option maxRecDepth 20000

/-- a slot with the value of its wrapped bytes, and the bytes -/
structure Sc where
  u : Bool
  n : Int
  e : Int
  t : Int
  v : Value
  xs : List Int
def Sc.cs (s : Sc) : List Value := sv s.u s.n s.e s.t s.v
def Sc.d (s : Sc) : Sl := ⟨s.u, s.n, s.e, s.t, s.xs⟩
theorem cs_len (s : Sc) : s.cs.length = 5 := rfl
def sc0 : Sc := ⟨false, 0, 0, 0, .slice none 0 0, []⟩
def z4 : Nat → Sc := fun _ => sc0
/-- the cells of four slots, of a record -/
def sls (S : Nat → Sc) : List Value := (S 0).cs ++ ((S 1).cs ++ ((S 2).cs ++ (S 3).cs))
def rv (g p : Int) (a : Value) (b : Int) (c : Value) (S : Nat → Sc) : List Value := .int .u64 g :: .int .u64 p :: a :: .int .u64 b :: c :: sls S
/-- the record of noughts -/
def rv0 : List Value := rv 0 0 (.slice none 0 0) 0 (.slice none 0 0) z4
theorem rowy_record : Rowy 28 25 := ⟨⟨_, Tryd.underlying28, rfl⟩, by kernel_rfl⟩
theorem rowy_rrecord : Rowy 39 25 := ⟨⟨_, Tryd.underlying39, rfl⟩, by kernel_rfl⟩
theorem rowy_slots : Rowy 26 20 := ⟨⟨_, Tryd.underlying26, rfl⟩, by kernel_rfl⟩
theorem rowy_rslots : Rowy 37 20 := ⟨⟨_, Tryd.underlying37, rfl⟩, by kernel_rfl⟩
theorem zero_record : (Tryd.prog.info? 28).map (fun i => (i.zero, i.size)) = some (some (.agg rv0.toArray), 25) := by kernel_rfl
theorem zero_rrecord : (Tryd.prog.info? 39).map (fun i => (i.zero, i.size)) = some (some (.agg rv0.toArray), 25) := by kernel_rfl
theorem build_record (w : World) : (Instr.build 28 #[]).run Tryd.prog w = .ok (.agg rv0.toArray) w := by kernel_rfl
theorem build_rrecord (w : World) : (Instr.build 39 #[]).run Tryd.prog w = .ok (.agg rv0.toArray) w := by kernel_rfl
/-- a value that is a slice -/
def Slc (v : Value) : Prop := v.oneCell' = true ∧ v.cells = #[v] ∧ (∀ y, v ≠ .int .u8 y) ∧ ∃ ao n cap, v = .slice ao n cap
theorem slc_byt {w : World} {v : Value} {xs : List Int} (h : Byt w v xs) : Slc v := by
  obtain ⟨ao, cap, rfl, _⟩ := h
  exact ⟨rfl, rfl, (fun y q => by cases q), _, _, _, rfl⟩
theorem cs_one {s : Sc} (h : Slc s.v) : ∀ x ∈ s.cs, x.oneCell' = true := sv_one _ _ _ _ h.1
theorem cs_nob {s : Sc} (h : Slc s.v) : ∀ x ∈ s.cs, ∀ y, x ≠ .int .u8 y := by
  intro v hv y q
  subst q
  simp [Sc.cs, sv] at hv
  exact h.2.2.1 y hv.symm
theorem rv_all {P : Value → Prop} {g p b : Int} {a c : Value} {S : Nat → Sc} (hi : ∀ x, P (.int .u64 x)) (ha : P a) (hc : P c) (hs : ∀ k, k < 4 → ∀ x ∈ (S k).cs, P x) : ∀ x ∈ rv g p a b c S, P x := by
  intro x hx
  simp only [rv, sls, List.mem_cons, List.mem_append] at hx
  rcases hx with rfl | rfl | rfl | rfl | rfl | h | h | h | h
  · exact hi _
  · exact hi _
  · exact ha
  · exact hi _
  · exact hc
  · exact hs 0 (by omega) x h
  · exact hs 1 (by omega) x h
  · exact hs 2 (by omega) x h
  · exact hs 3 (by omega) x h
theorem rv_one {g p b : Int} {a c : Value} {S : Nat → Sc} (ha : Slc a) (hc : Slc c) (hs : ∀ k, k < 4 → Slc (S k).v) : ∀ x ∈ rv g p a b c S, x.oneCell' = true :=
  rv_all (fun _ => rfl) ha.1 hc.1 fun k hk => cs_one (hs k hk)
theorem rv_nob {g p b : Int} {a c : Value} {S : Nat → Sc} (ha : Slc a) (hc : Slc c) (hs : ∀ k, k < 4 → Slc (S k).v) : ∀ x ∈ rv g p a b c S, ∀ y, x ≠ .int .u8 y :=
  rv_all (P := fun x => ∀ y, x ≠ .int .u8 y) (fun _ y q => by cases q) ha.2.2.1 hc.2.2.1 fun k hk => cs_nob (hs k hk)
theorem slc_nil : Slc (.slice none 0 0) := ⟨rfl, rfl, (fun y q => by cases q), _, _, _, rfl⟩
theorem slc_sl (ao : Option Addr) (n cap : Nat) : Slc (.slice ao n cap) := ⟨rfl, rfl, (fun y q => by cases q), _, _, _, rfl⟩
theorem slc_z4 : ∀ k, k < 4 → Slc (z4 k).v := fun _ _ => slc_nil
theorem rv0_one : ∀ x ∈ rv0, x.oneCell' = true := rv_one slc_nil slc_nil slc_z4
theorem rv0_nob : ∀ x ∈ rv0, ∀ y, x ≠ .int .u8 y := rv_nob slc_nil slc_nil slc_z4
theorem four {P : Nat → Prop} (h0 : P 0) (h1 : P 1) (h2 : P 2) (h3 : P 3) : ∀ k, k < 4 → P k := fun k hk =>
  match k, hk with
  | 0, _ => h0
  | 1, _ => h1
  | 2, _ => h2
  | 3, _ => h3
theorem upto_succ {P : Nat → Prop} {k : Nat} (h : ∀ j, j < k → P j) (hk : P k) : ∀ j, j < k + 1 → P j := fun j hj => by
  by_cases e : j = k
  · rw [e]; exact hk
  · exact h j (by omega)
theorem upto_zero {P : Nat → Prop} : ∀ j, j < 0 → P j := fun _ hj => absurd hj (Nat.not_lt_zero _)
/-- part of what lies in a variable -/
theorem Vr.part {w : World} {c : Nat} {pre cs post : List Value} (h : Vr w c (pre ++ (cs ++ post))) (o : Nat) (ho : pre.length = o) : w.rangeAt c o cs ∧ w.there c o cs.length := by
  subst ho
  refine ⟨fun j v hv => ?_, fun j hj => ?_⟩
  · refine h.cell (pre.length + j) v ?_
    rw [List.getElem?_append_right (by omega), Nat.add_sub_cancel_left, List.getElem?_append_left (List.getElem?_eq_some_iff.1 hv).1]
    exact hv
  · have := h.2 (pre.length + j) (by simp; omega)
    rwa [Nat.zero_add] at this
theorem Vr.mid {w : World} {c : Nat} {pre old post : List Value} (h : Vr w c (pre ++ (old ++ post))) (cs : List Value) (hl : old.length = cs.length) (o : Nat) (ho : pre.length = o) : Vr (w.setCells c o cs) c (pre ++ (cs ++ post)) := by
  have ht := (Vr.part h o ho).2
  rw [hl] at ht
  refine ⟨fun j v hv => ?_, ?_⟩
  · rw [Nat.zero_add]
    by_cases h1 : j < o
    · rw [World.cell?_setCells_out c cs o w ⟨c, j, none⟩ (fun _ _ => Or.inl h1)]
      refine h.cell j v ?_
      rw [List.getElem?_append_left (by omega)] at hv ⊢
      exact hv
    · by_cases h2 : j < o + cs.length
      · have := World.cell?_setCells_in c cs o w (fun i hi => (ht i hi).1) (j - o) (by omega)
        rw [show o + (j - o) = j by omega] at this
        rw [this, ← hv, List.getElem?_append_right (by omega), ho, List.getElem?_append_left (by omega), List.getElem?_eq_getElem]
      · rw [World.cell?_setCells_out c cs o w ⟨c, j, none⟩ (fun _ _ => Or.inr (by simp; omega))]
        refine h.cell j v ?_
        rw [List.getElem?_append_right (by omega), ho, List.getElem?_append_right (by omega)] at hv ⊢
        rw [hl]
        exact hv
  · have := World.there_setCells h.2 c o cs
    simpa [hl] using this
theorem NoB.mid {w : World} {g : Nat} {pre old post : List Value} (h : NoB w g) (hV : Vr w g (pre ++ (old ++ post))) (cs : List Value) (hl : old.length = cs.length) (o : Nat) (ho : pre.length = o) (hc : ∀ v ∈ cs, ∀ y, v ≠ .int .u8 y) : NoB (w.setCells g o cs) g := fun j y e => by
  have ht := (Vr.part hV o ho).2
  rw [hl] at ht
  by_cases h2 : o ≤ j ∧ j < o + cs.length
  · have := World.cell?_setCells_in g cs o w (fun i hi => (ht i hi).1) (j - o) (by omega)
    rw [show o + (j - o) = j by omega] at this
    rw [this] at e
    exact hc _ (List.getElem_mem _) y (Option.some.inj e)
  · rw [World.cell?_setCells_out g cs o w ⟨g, j, none⟩ (fun _ _ => by simp; omega)] at e
    exact h j y e
/-- slot k in its place -/
def upd (S : Nat → Sc) (k : Nat) (s : Sc) : Nat → Sc := fun j => if j = k then s else S j
theorem upd_same (S : Nat → Sc) (k : Nat) (s : Sc) : upd S k s k = s := if_pos rfl
theorem upd_other (S : Nat → Sc) (k j : Nat) (s : Sc) (h : j ≠ k) : upd S k s j = S j := if_neg h
def pre (g p : Int) (a : Value) (b : Int) (c : Value) (S : Nat → Sc) : Nat → List Value
  | 0 => [.int .u64 g, .int .u64 p, a, .int .u64 b, c]
  | k + 1 => pre g p a b c S k ++ (S k).cs
theorem pre_len (g p : Int) (a : Value) (b : Int) (c : Value) (S : Nat → Sc) (k : Nat) : (pre g p a b c S k).length = 5 + k * 5 := by
  induction k with
  | zero => rfl
  | succ k ih => rw [pre, List.length_append, ih]; show _ + 5 = _; omega
def post (S : Nat → Sc) : Nat → List Value
  | 0 => (S 1).cs ++ ((S 2).cs ++ (S 3).cs)
  | 1 => (S 2).cs ++ (S 3).cs
  | 2 => (S 3).cs
  | _ => []
theorem rv_parts (g p : Int) (a : Value) (b : Int) (c : Value) (S : Nat → Sc) : ∀ k, k < 4 → rv g p a b c S = pre g p a b c S k ++ ((S k).cs ++ post S k) :=
  four rfl rfl rfl rfl
theorem upd_parts (g p : Int) (a : Value) (b : Int) (c : Value) (S : Nat → Sc) (s : Sc) : ∀ k, k < 4 → rv g p a b c (upd S k s) = pre g p a b c S k ++ (s.cs ++ post S k) :=
  four rfl rfl rfl rfl
section
variable {w : World} {c : Nat} {g p b : Int} {va vc : Value} {S : Nat → Sc}
theorem Vr.slots (h : Vr w c (rv g p va b vc S)) : w.rangeAt c 5 (sls S) := by
  have h' : Vr w c ([.int .u64 g, .int .u64 p, va, .int .u64 b, vc] ++ (sls S ++ [])) := by rw [List.append_nil]; exact h
  exact (Vr.part h' 5 rfl).1
theorem Vr.slot (h : Vr w c (rv g p va b vc S)) (k : Nat) (hk : k < 4) : w.rangeAt c (5 + k * 5) (S k).cs := by
  rw [rv_parts g p va b vc S k hk] at h
  exact (Vr.part h _ (pre_len g p va b vc S k)).1
theorem Vr.sthere (h : Vr w c (rv g p va b vc S)) (k : Nat) (hk : k < 4) : w.there c (5 + k * 5) 5 := by
  rw [rv_parts g p va b vc S k hk] at h
  have := (Vr.part h _ (pre_len g p va b vc S k)).2
  rwa [cs_len] at this
theorem Vr.upd (h : Vr w c (rv g p va b vc S)) (k : Nat) (hk : k < 4) (s : Sc) : Vr (w.setCells c (5 + k * 5) s.cs) c (rv g p va b vc (upd S k s)) := by
  rw [rv_parts g p va b vc S k hk] at h
  rw [upd_parts g p va b vc S s k hk]
  exact Vr.mid h s.cs ((cs_len _).trans (cs_len s).symm) _ (pre_len g p va b vc S k)
theorem NoB.upd (hn : NoB w c) (h : Vr w c (rv g p va b vc S)) (k : Nat) (hk : k < 4) (s : Sc) (hs : Slc s.v) : NoB (w.setCells c (5 + k * 5) s.cs) c := by
  rw [rv_parts g p va b vc S k hk] at h
  exact NoB.mid hn h s.cs ((cs_len _).trans (cs_len s).symm) _ (pre_len g p va b vc S k) (cs_nob hs)
end
/-- the record hangs on its four slots alone -/
theorem rv_congr {g p b : Int} {a c : Value} {S S' : Nat → Sc} (h : ∀ k, k < 4 → S k = S' k) : rv g p a b c S = rv g p a b c S' := by
  unfold rv sls
  rw [h 0 (by omega), h 1 (by omega), h 2 (by omega), h 3 (by omega)]
theorem run_idx (w : World) (S : Nat → Sc) : ∀ k : Nat, k < 4 → (Instr.index 26 (.agg (sls S).toArray) (.int .i64 (k : Int))).run Tryd.prog w = .ok (.agg (S k).cs.toArray) w :=
  four (by kernel_rfl) (by kernel_rfl) (by kernel_rfl) (by kernel_rfl)
theorem exec_len {ev : Operand → Value} {o : Oper} (x : Operand) (hop : o.op = .call { callee := .builtin .len, args := #[x], argTypes := #[23] }) (v : Value) (xs : List Int) (w0 : World) (hb : Byt w0 v xs) (n : Nat) (hn : xs.length = n) (hx : ev x = v) (w : World) : (execOp ev o).run Tryd.prog w = .ok (.value (.int .i64 (n : Int))) w := by
  obtain ⟨ao, cap, rfl, -⟩ := hb
  subst hn
  simp [execOp, hop, resolve, invoke, builtin, hx, Result.andThen]
  rfl
theorem run_bslot (w : World) (s : Sc) (h : Slc s.v) : (Instr.build 36 #[(0, .bool s.u), (1, .int .i64 s.n), (2, .int .u64 s.e), (3, .int .u64 s.t), (4, s.v)]).run Tryd.prog w = .ok (.agg s.cs.toArray) w := by
  obtain ⟨u, n, e, t, v, xs⟩ := s
  obtain ⟨-, -, -, ao, m, cap, rfl⟩ := h
  kernel_rfl
/-- what lies in memory of a record's values -/
def Rin (w : World) (g p b : Int) (a c : Value) (al cl : List Int) (S : Nat → Sc) : Prop :=
  (U64 g ∧ U64 p ∧ U64 b) ∧ Byt w a al ∧ Byt w c cl ∧ ∀ k, k < 4 → Sb (S k).n (S k).e (S k).t ∧ Byt w (S k).v (S k).xs
theorem Rin.below {w w' : World} {g p b : Int} {a c : Value} {al cl : List Int} {S : Nat → Sc} (h : Rin w g p b a c al cl S) (hb : Below w.heap.size w w') : Rin w' g p b a c al cl S :=
  ⟨h.1, h.2.1.below hb, h.2.2.1.below hb, fun k hk => ⟨(h.2.2.2 k hk).1, (h.2.2.2 k hk).2.below hb⟩⟩
theorem rin_nob {w w' : World} {d : Nat} {g p b : Int} {a c : Value} {al cl : List Int} {S : Nat → Sc} (h : Rin w g p b a c al cl S) (hn : NoB w d) (hk : ∀ k, k ≠ d → w'.heap[k]? = w.heap[k]?) : Rin w' g p b a c al cl S :=
  ⟨h.1, byt_nob h.2.1 hn hk, byt_nob h.2.2.1 hn hk, fun k hk' => ⟨(h.2.2.2 k hk').1, byt_nob (h.2.2.2 k hk').2 hn hk⟩⟩
theorem Rin.slc {w : World} {g p b : Int} {a c : Value} {al cl : List Int} {S : Nat → Sc} (h : Rin w g p b a c al cl S) : ∀ k, k < 4 → Slc (S k).v := fun k hk => slc_byt (h.2.2.2 k hk).2
theorem Rin.one {w : World} {g p b : Int} {a c : Value} {al cl : List Int} {S : Nat → Sc} (h : Rin w g p b a c al cl S) : ∀ x ∈ rv g p a b c S, x.oneCell' = true := rv_one (slc_byt h.2.1) (slc_byt h.2.2.1) h.slc
theorem Rin.nob {w : World} {g p b : Int} {a c : Value} {al cl : List Int} {S : Nat → Sc} (h : Rin w g p b a c al cl S) : ∀ x ∈ rv g p a b c S, ∀ y, x ≠ .int .u8 y := rv_nob (slc_byt h.2.1) (slc_byt h.2.2.1) h.slc
/-- the bytes of a record's values -/
def Rb (w : World) (a c : Value) (al cl : List Int) (S : Nat → Sc) : Prop := Byt w a al ∧ Byt w c cl ∧ ∀ k, k < 4 → Byt w (S k).v (S k).xs
theorem Rb.below {w w' : World} {a c : Value} {al cl : List Int} {S : Nat → Sc} (h : Rb w a c al cl S) (hb : Below w.heap.size w w') : Rb w' a c al cl S := ⟨h.1.below hb, h.2.1.below hb, fun k hk => (h.2.2 k hk).below hb⟩
theorem rb_nob {w w' : World} {d : Nat} {a c : Value} {al cl : List Int} {S : Nat → Sc} (h : Rb w a c al cl S) (hn : NoB w d) (hk : ∀ k, k ≠ d → w'.heap[k]? = w.heap[k]?) : Rb w' a c al cl S := ⟨byt_nob h.1 hn hk, byt_nob h.2.1 hn hk, fun k hk' => byt_nob (h.2.2 k hk') hn hk⟩
theorem Rb.slc {w : World} {a c : Value} {al cl : List Int} {S : Nat → Sc} (h : Rb w a c al cl S) : ∀ k, k < 4 → Slc (S k).v := fun k hk => slc_byt (h.2.2 k hk)
theorem Rb.one {w : World} {g p b : Int} {a c : Value} {al cl : List Int} {S : Nat → Sc} (h : Rb w a c al cl S) : ∀ x ∈ rv g p a b c S, x.oneCell' = true := rv_one (slc_byt h.1) (slc_byt h.2.1) h.slc
theorem Rb.nob {w : World} {g p b : Int} {a c : Value} {al cl : List Int} {S : Nat → Sc} (h : Rb w a c al cl S) : ∀ x ∈ rv g p a b c S, ∀ y, x ≠ .int .u8 y := rv_nob (slc_byt h.1) (slc_byt h.2.1) h.slc
theorem Rin.rb {w : World} {g p b : Int} {a c : Value} {al cl : List Int} {S : Nat → Sc} (h : Rin w g p b a c al cl S) : Rb w a c al cl S := ⟨h.2.1, h.2.2.1, fun k hk => (h.2.2.2 k hk).2⟩
/-- the record as data -/
def RC (g p : Int) (al : List Int) (b : Int) (cl : List Int) (S : Nat → Sc) : Rc := ⟨g, p, al, b, cl, (S 0).d, (S 1).d, (S 2).d, (S 3).d⟩
def Rok (al cl : List Int) (S : Nat → Sc) : Prop := al.length = 16 ∧ cl.length = 32 ∧ ∀ k, k < 4 → (S k).d.ok
theorem rok_ok {g p b : Int} {al cl : List Int} {S : Nat → Sc} (h : Rok al cl S) : (RC g p al b cl S).ok := ⟨h.1, h.2.1, h.2.2 0 (by omega), h.2.2 1 (by omega), h.2.2 2 (by omega), h.2.2 3 (by omega)⟩

theorem cells_record : Tryd.prog.cellsOf 28 = 25 := by kernel_rfl
theorem cells_slots : Tryd.prog.cellsOf 26 = 20 := by kernel_rfl
/-- cells that are read as a slot -/
theorem slot_cells {H : Type} {enc : TypeId × Value → H} {W : World} {fuel : Nat} {c0 c1 c2 c3 c4 : Value} {x : DataW H × List MemPlace}
    (hf : DataW.trod enc Tryd.prog W 0 (fun _ => true) true fuel 25 [c0, c1, c2, c3, c4] = some x) : ∃ s : Sc, [c0, c1, c2, c3, c4] = s.cs ∧ Sb s.n s.e s.t ∧ Byt W s.v s.xs := by
  obtain ⟨xs, n, -, -, -, hlen, hall⟩ := DataW.trod_struct Tryd.underlying25 hf
  match xs, hlen with
  | [y0, y1, y2, y3, y4], _ =>
    have a0 := hall 0 _ rfl
    have a1 := hall 1 _ rfl
    have a2 := hall 2 _ rfl
    have a3 := hall 3 _ rfl
    have a4 := hall 4 _ rfl
    simp [cells_int, cells_u64, cells_bytes, cells_bool] at a0 a1 a2 a3 a4
    obtain ⟨b0, hb0, -⟩ := DataW.trod_bool Tryd.underlying4 a0
    obtain rfl : c0 = .bool b0 := by simpa using hb0
    obtain ⟨n1, rfl, w1⟩ := num_cell Tryd.underlying3 a1
    obtain ⟨n2, rfl, w2⟩ := num_cell Tryd.underlying22 a2
    obtain ⟨n3, rfl, w3⟩ := num_cell Tryd.underlying22 a3
    obtain ⟨zs, b4⟩ := byt_cells a4
    exact ⟨⟨b0, n1, n2, n3, c4, zs⟩, rfl, ⟨bounds_i64 w1, bounds_u64 w2, bounds_u64 w3⟩, b4⟩
end Go.Proofs.YtmbfccclghnaeaaDoor.re

/- What record's partsOf answers. No claim of its own. -/
namespace Go.Proofs.YtmbfccclghnaeaaDoor.re
open Go.RowKit Go.Proofs.YtmbfccclghnaeaaDoor.fa Go.Proofs.YtmbfccclghnaeaaDoor.he Go.Proofs.YtmbfccclghnaeaaDoor.so
set_option maxRecDepth 20000

theorem big8 (n : Int) (w : World) (hn : U64 n) : Calls Tryd.prog 49 #[.int .u64 n, .int .i64 8] w fun e w' => ∃ xo xc, e = .returned (.slice xo 8 xc) ∧ Byt w' (.slice xo 8 xc) (be n 8) ∧ Below w.heap.size w w' :=
  (big_any n 8 w hn).mono fun e w' ⟨v, h1, h2, h3⟩ => by
    have h2 : Byt w' v (be n 8) := h2
    obtain ⟨xo, xc, rfl⟩ := byt_form h2 (be_len n 8)
    exact ⟨xo, xc, h1, h2, h3⟩
theorem be0 : be 0 8 = List.replicate 8 0 := by decide
/-- six slices -/
def pv (a b c d e f : Value) : List Value := [a, b, c, d, e, f]
theorem rowy_parts : Rowy 59 6 := ⟨⟨_, Tryd.underlying59, rfl⟩, by kernel_rfl⟩
def nl : Value := .slice none 0 0
theorem zero_parts : (Tryd.prog.info? 59).map (fun i => (i.zero, i.size)) = some (some (.agg (pv nl nl nl nl nl nl).toArray), 6) := by kernel_rfl
theorem pv_slc {P : Value → Prop} {a b c d e f : Value} (ha : P a) (hb : P b) (hc : P c) (hd : P d) (he : P e) (hf : P f) : ∀ x ∈ pv a b c d e f, P x := by
  intro x hx
  simp only [pv, List.mem_cons, List.not_mem_nil, or_false] at hx
  rcases hx with rfl | rfl | rfl | rfl | rfl | rfl
  · exact ha
  · exact hb
  · exact hc
  · exact hd
  · exact he
  · exact hf
theorem pv_one (a b c d e f : Value) (ha : Slc a) (hb : Slc b) (hc : Slc c) (hd : Slc d) (he : Slc e) (hf : Slc f) : ∀ x ∈ pv a b c d e f, x.oneCell' = true := pv_slc ha.1 hb.1 hc.1 hd.1 he.1 hf.1
theorem pv_nob (a b c d e f : Value) (ha : Slc a) (hb : Slc b) (hc : Slc c) (hd : Slc d) (he : Slc e) (hf : Slc f) : ∀ x ∈ pv a b c d e f, ∀ y, x ≠ .int .u8 y := pv_slc (P := fun x => ∀ y, x ≠ .int .u8 y) ha.2.2.1 hb.2.2.1 hc.2.2.1 hd.2.2.1 he.2.2.1 hf.2.2.1
theorem nl_slc : Slc nl := slc_nil

set_option maxHeartbeats 4000000 in
theorem parts_any (g p b : Int) (a c : Value) (al cl : List Int) (S : Nat → Sc) (w : World) (hR : Rin w g p b a c al cl S) :
    Calls Tryd.prog 27 #[.agg (rv g p a b c S).toArray] w fun x w' => ∃ o0 c0 o1 c1 o3 c3 o4 c4, x = .returned (.agg (pv (.slice o0 8 c0) (.slice o1 8 c1) a (.slice o3 8 c3) (.slice o4 8 c4) c).toArray) ∧ Byt w' (.slice o0 8 c0) (be g 8) ∧ Byt w' (.slice o1 8 c1) (be p 8) ∧ Byt w' (.slice o3 8 c3) (be b 8) ∧ Byt w' (.slice o4 8 c4) (List.replicate 8 0) ∧ Below w.heap.size w w' := by
  have U0 : Hid (U64 g) := hR.1.1
  have U1 : Hid (U64 p) := hR.1.2.1
  have U3 : Hid (U64 b) := hR.1.2.2
  have U4 : Hid (U64 0) := ⟨by omega, by omega⟩
  obtain ⟨ao, ca, rfl⟩ := form hR.2.1
  obtain ⟨co, cc, rfl⟩ := form hR.2.2.1
  clear hR
  have t0 : (0 : Nat) = 0 := rfl
  go_enter Tryd.func27, Tryd.ntmps27
  go_wp2_with (first
    | (have q1 := t1; (with_reducible refine at_alloc ?_); refine new_lawN _ (pv nl nl nl nl nl nl) zero_parts (pv_nob _ _ _ _ _ _ nl_slc nl_slc nl_slc nl_slc nl_slc nl_slc) ?_; intro w2 X9 N9 B9; have LT_HB0_HR : Hid (w.heap.size < w1.heap.size) := range_lt HB0.out.1 (Nat.succ_pos _); have LE_HR : Hid (w.heap.size ≤ w1.heap.size) := BB.out.size; have HB0 : Hid (Vr w2 w.heap.size (rv g p (.slice ao al.length ca) b (.slice co cl.length cc) S)) := HB0.out.below B9 (range_lt HB0.out.1 (Nat.succ_pos _)); have HR : Hid (Vr w2 w1.heap.size (pv nl nl nl nl nl nl)) := X9; have NB_HR : Hid (NoB w2 w1.heap.size) := N9; have BB : Hid (Below w.heap.size w w2) := BB.out.trans (B9.mono BB.out.size); clear X9 N9 B9; clear t1; have t2 : (1 : Nat) = 1 := rfl)
    | (have q0 := t0; refine box_lawC _ (rv g p (.slice ao al.length ca) b (.slice co cl.length cc) S) rfl ?_; intro w1 X9 B9 l9; have HB0 : Hid (Vr w1 w.heap.size (rv g p (.slice ao al.length ca) b (.slice co cl.length cc) S)) := X9; have BB : Hid (Below w.heap.size w w1) := B9; clear X9 B9 l9; clear t0; have t1 : (1 : Nat) = 1 := rfl))
  have HR : Hid (Vr w2.drew w1.heap.size (pv nl nl nl nl nl nl)) := HR.out.drewN 1
  have NB_HR : Hid (NoB w2.drew w1.heap.size) := NB_HR.out.heap rfl
  refine wp_region_held_drew (S := fun w' => Below w.heap.size w w' ∧ w'.rangeAt w.heap.size 0 (rv g p (.slice ao al.length ca) b (.slice co cl.length cc) S)) (by kernel_rfl) ⟨BB.out.drew, HB0.out.1⟩ (fun hS => ?_)
  obtain ⟨x1, hx0⟩ : ∃ x, x = w2.drew := ⟨_, rfl⟩
  rw [← hx0] at hS HR NB_HR ⊢
  clear hx0
  refine take_lawH 0 (some 3) (.pointer (some ⟨w.heap.size, 0, none⟩)) rfl rfl (by kernel_rfl) (by kernel_rfl) (by kernel_rfl) (fun _ _ _ h => h) (Or.inl ⟨by rfl, fun w' hw' => by go_simp⟩) hS ?_
  simp only [Act.put, List.setIfInBounds_toArray, List.set_cons_zero, List.set_cons_succ]
  refine take_lawH 1 (some 4) (.int .u64 g) rfl rfl (by kernel_rfl) (by kernel_rfl) (by kernel_rfl) (fun _ _ _ h => h) (Or.inl ⟨by rfl, fun w' hw' => by exact exec_loadN 22 (.tmp 3) rfl _ rfl _ _ (load_one one_u64 (by have := hw'.2 0 _ rfl; rwa [Nat.zero_add] at this))⟩) hS ?_
  simp only [Act.put, List.setIfInBounds_toArray, List.set_cons_zero, List.set_cons_succ]
  refine take_lawH 3 (some 6) (.pointer (some ⟨w.heap.size, 1, none⟩)) rfl rfl (by kernel_rfl) (by kernel_rfl) (by kernel_rfl) (fun _ _ _ h => h) (Or.inl ⟨by rfl, fun w' hw' => by go_simp⟩) hS ?_
  simp only [Act.put, List.setIfInBounds_toArray, List.set_cons_zero, List.set_cons_succ]
  refine take_lawH 4 (some 7) (.int .u64 p) rfl rfl (by kernel_rfl) (by kernel_rfl) (by kernel_rfl) (fun _ _ _ h => h) (Or.inl ⟨by rfl, fun w' hw' => by exact exec_loadN 22 (.tmp 6) rfl _ rfl _ _ (load_one one_u64 (by have := hw'.2 1 _ rfl; rwa [Nat.zero_add] at this))⟩) hS ?_
  simp only [Act.put, List.setIfInBounds_toArray, List.set_cons_zero, List.set_cons_succ]
  refine take_lawH 6 (some 9) (.pointer (some ⟨w.heap.size, 2, none⟩)) rfl rfl (by kernel_rfl) (by kernel_rfl) (by kernel_rfl) (fun _ _ _ h => h) (Or.inl ⟨by rfl, fun w' hw' => by go_simp⟩) hS ?_
  simp only [Act.put, List.setIfInBounds_toArray, List.set_cons_zero, List.set_cons_succ]
  refine take_lawH 7 (some 10) (.slice ao al.length ca) rfl rfl (by kernel_rfl) (by kernel_rfl) (by kernel_rfl) (fun _ _ _ h => h) (Or.inl ⟨by rfl, fun w' hw' => by exact exec_loadN 23 (.tmp 9) rfl _ rfl _ _ (load_one one_bytes (by have := hw'.2 2 _ rfl; rwa [Nat.zero_add] at this))⟩) hS ?_
  simp only [Act.put, List.setIfInBounds_toArray, List.set_cons_zero, List.set_cons_succ]
  refine take_lawH 8 (some 11) (.pointer (some ⟨w.heap.size, 3, none⟩)) rfl rfl (by kernel_rfl) (by kernel_rfl) (by kernel_rfl) (fun _ _ _ h => h) (Or.inl ⟨by rfl, fun w' hw' => by go_simp⟩) hS ?_
  simp only [Act.put, List.setIfInBounds_toArray, List.set_cons_zero, List.set_cons_succ]
  refine take_lawH 9 (some 12) (.int .u64 b) rfl rfl (by kernel_rfl) (by kernel_rfl) (by kernel_rfl) (fun _ _ _ h => h) (Or.inl ⟨by rfl, fun w' hw' => by exact exec_loadN 22 (.tmp 11) rfl _ rfl _ _ (load_one one_u64 (by have := hw'.2 3 _ rfl; rwa [Nat.zero_add] at this))⟩) hS ?_
  simp only [Act.put, List.setIfInBounds_toArray, List.set_cons_zero, List.set_cons_succ]
  refine take_lawH 12 (some 15) (.pointer (some ⟨w.heap.size, 4, none⟩)) rfl rfl (by kernel_rfl) (by kernel_rfl) (by kernel_rfl) (fun _ _ _ h => h) (Or.inl ⟨by rfl, fun w' hw' => by go_simp⟩) hS ?_
  simp only [Act.put, List.setIfInBounds_toArray, List.set_cons_zero, List.set_cons_succ]
  refine take_lawH 13 (some 16) (.slice co cl.length cc) rfl rfl (by kernel_rfl) (by kernel_rfl) (by kernel_rfl) (fun _ _ _ h => h) (Or.inl ⟨by rfl, fun w' hw' => by exact exec_loadN 23 (.tmp 15) rfl _ rfl _ _ (load_one one_bytes (by have := hw'.2 4 _ rfl; rwa [Nat.zero_add] at this))⟩) hS ?_
  simp only [Act.put, List.setIfInBounds_toArray, List.set_cons_zero, List.set_cons_succ]
  refine wpAnyH_ready (rs := [2]) (by kernel_rfl) (by simp) ?_
  refine AllReadyH.cons rfl (fun K hK => ?_) AllReadyH.nil
  refine he.step_callW _ (by rfl) (some 5) rfl 49 #[.tmp 4, .const (.int .i64 8)] #[22, 3] rfl (fun q w' => by rfl) #[.int .u64 g, .int .i64 8] (by simp only [List.map_toArray, List.map_cons, List.map_nil]; rfl) (fun z9 w' => (∃ xo xc, z9 = .slice xo 8 xc ∧ Byt w' (.slice xo 8 xc) (be g 8)) ∧ Below x1.heap.size x1 w') ?_ ?_
  · exact (big8 g x1 U0.out).mono fun e w' ⟨xo, xc, h1, h2, h3⟩ => ⟨_, h1, ⟨xo, xc, rfl, h2⟩, h3⟩
  rintro _ x2 ⟨⟨o0, c0, rfl, y9⟩, hb⟩
  have NB_HR : Hid (NoB x2 w1.heap.size) := NB_HR.out.heap (hb.block _ (range_lt HR.out.1 (Nat.succ_pos _)))
  have HR : Hid (Vr x2 w1.heap.size (pv nl nl nl nl nl nl)) := HR.out.below hb (range_lt HR.out.1 (Nat.succ_pos _))
  have Y0 : Hid (Byt x2 (.slice o0 8 c0) (be g 8)) := y9
  clear y9
  have hS : Below w.heap.size w x2 ∧ x2.rangeAt w.heap.size 0 (rv g p (.slice ao al.length ca) b (.slice co cl.length cc) S) := ⟨hS.1.trans (hb.mono hS.1.size), range_heap hS.2 (hb.block _ (range_lt hS.2 (Nat.succ_pos _)))⟩
  clear hb
  refine hK.out _ _ hS (fun _ => ?_)
  simp only [Act.put, List.setIfInBounds_toArray, List.set_cons_zero, List.set_cons_succ]
  clear hK K
  refine wpAnyH_ready (rs := [5]) (by kernel_rfl) (by simp) ?_
  refine AllReadyH.cons rfl (fun K hK => ?_) AllReadyH.nil
  refine he.step_callW _ (by rfl) (some 8) rfl 49 #[.tmp 7, .const (.int .i64 8)] #[22, 3] rfl (fun q w' => by rfl) #[.int .u64 p, .int .i64 8] (by simp only [List.map_toArray, List.map_cons, List.map_nil]; rfl) (fun z9 w' => (∃ xo xc, z9 = .slice xo 8 xc ∧ Byt w' (.slice xo 8 xc) (be p 8)) ∧ Below x2.heap.size x2 w') ?_ ?_
  · exact (big8 p x2 U1.out).mono fun e w' ⟨xo, xc, h1, h2, h3⟩ => ⟨_, h1, ⟨xo, xc, rfl, h2⟩, h3⟩
  rintro _ x3 ⟨⟨o1, c1, rfl, y9⟩, hb⟩
  have NB_HR : Hid (NoB x3 w1.heap.size) := NB_HR.out.heap (hb.block _ (range_lt HR.out.1 (Nat.succ_pos _)))
  have HR : Hid (Vr x3 w1.heap.size (pv nl nl nl nl nl nl)) := HR.out.below hb (range_lt HR.out.1 (Nat.succ_pos _))
  have Y0 : Hid (Byt x3 (.slice o0 8 c0) (be g 8)) := Y0.out.below hb
  have Y1 : Hid (Byt x3 (.slice o1 8 c1) (be p 8)) := y9
  clear y9
  have hS : Below w.heap.size w x3 ∧ x3.rangeAt w.heap.size 0 (rv g p (.slice ao al.length ca) b (.slice co cl.length cc) S) := ⟨hS.1.trans (hb.mono hS.1.size), range_heap hS.2 (hb.block _ (range_lt hS.2 (Nat.succ_pos _)))⟩
  clear hb
  refine hK.out _ _ hS (fun _ => ?_)
  simp only [Act.put, List.setIfInBounds_toArray, List.set_cons_zero, List.set_cons_succ]
  clear hK K
  refine wpAnyH_ready (rs := [10]) (by kernel_rfl) (by simp) ?_
  refine AllReadyH.cons rfl (fun K hK => ?_) AllReadyH.nil
  refine he.step_callW _ (by rfl) (some 13) rfl 49 #[.tmp 12, .const (.int .i64 8)] #[22, 3] rfl (fun q w' => by rfl) #[.int .u64 b, .int .i64 8] (by simp only [List.map_toArray, List.map_cons, List.map_nil]; rfl) (fun z9 w' => (∃ xo xc, z9 = .slice xo 8 xc ∧ Byt w' (.slice xo 8 xc) (be b 8)) ∧ Below x3.heap.size x3 w') ?_ ?_
  · exact (big8 b x3 U3.out).mono fun e w' ⟨xo, xc, h1, h2, h3⟩ => ⟨_, h1, ⟨xo, xc, rfl, h2⟩, h3⟩
  rintro _ x4 ⟨⟨o3, c3, rfl, y9⟩, hb⟩
  have NB_HR : Hid (NoB x4 w1.heap.size) := NB_HR.out.heap (hb.block _ (range_lt HR.out.1 (Nat.succ_pos _)))
  have HR : Hid (Vr x4 w1.heap.size (pv nl nl nl nl nl nl)) := HR.out.below hb (range_lt HR.out.1 (Nat.succ_pos _))
  have Y0 : Hid (Byt x4 (.slice o0 8 c0) (be g 8)) := Y0.out.below hb
  have Y1 : Hid (Byt x4 (.slice o1 8 c1) (be p 8)) := Y1.out.below hb
  have Y3 : Hid (Byt x4 (.slice o3 8 c3) (be b 8)) := y9
  clear y9
  have hS : Below w.heap.size w x4 ∧ x4.rangeAt w.heap.size 0 (rv g p (.slice ao al.length ca) b (.slice co cl.length cc) S) := ⟨hS.1.trans (hb.mono hS.1.size), range_heap hS.2 (hb.block _ (range_lt hS.2 (Nat.succ_pos _)))⟩
  clear hb
  refine hK.out _ _ hS (fun _ => ?_)
  simp only [Act.put, List.setIfInBounds_toArray, List.set_cons_zero, List.set_cons_succ]
  clear hK K
  refine wpAnyH_ready (rs := [11]) (by kernel_rfl) (by simp) ?_
  refine AllReadyH.cons rfl (fun K hK => ?_) AllReadyH.nil
  refine he.step_callW _ (by rfl) (some 14) rfl 49 #[.const (.int .u64 0), .const (.int .i64 8)] #[22, 3] rfl (fun q w' => by rfl) #[.int .u64 0, .int .i64 8] (by simp only [List.map_toArray, List.map_cons, List.map_nil]; rfl) (fun z9 w' => (∃ xo xc, z9 = .slice xo 8 xc ∧ Byt w' (.slice xo 8 xc) (be 0 8)) ∧ Below x4.heap.size x4 w') ?_ ?_
  · exact (big8 0 x4 U4.out).mono fun e w' ⟨xo, xc, h1, h2, h3⟩ => ⟨_, h1, ⟨xo, xc, rfl, h2⟩, h3⟩
  rintro _ x5 ⟨⟨o4, c4, rfl, y9⟩, hb⟩
  have NB_HR : Hid (NoB x5 w1.heap.size) := NB_HR.out.heap (hb.block _ (range_lt HR.out.1 (Nat.succ_pos _)))
  have HR : Hid (Vr x5 w1.heap.size (pv nl nl nl nl nl nl)) := HR.out.below hb (range_lt HR.out.1 (Nat.succ_pos _))
  have Y0 : Hid (Byt x5 (.slice o0 8 c0) (be g 8)) := Y0.out.below hb
  have Y1 : Hid (Byt x5 (.slice o1 8 c1) (be p 8)) := Y1.out.below hb
  have Y3 : Hid (Byt x5 (.slice o3 8 c3) (be b 8)) := Y3.out.below hb
  have Y4 : Hid (Byt x5 (.slice o4 8 c4) (be 0 8)) := y9
  clear y9
  have hS : Below w.heap.size w x5 ∧ x5.rangeAt w.heap.size 0 (rv g p (.slice ao al.length ca) b (.slice co cl.length cc) S) := ⟨hS.1.trans (hb.mono hS.1.size), range_heap hS.2 (hb.block _ (range_lt hS.2 (Nat.succ_pos _)))⟩
  clear hb
  refine hK.out _ _ hS (fun _ => ?_)
  simp only [Act.put, List.setIfInBounds_toArray, List.set_cons_zero, List.set_cons_succ]
  clear hK K
  refine take_lawH 14 (some 17) (.agg (pv (.slice o0 8 c0) (.slice o1 8 c1) (.slice ao al.length ca) (.slice o3 8 c3) (.slice o4 8 c4) (.slice co cl.length cc)).toArray) rfl rfl (by kernel_rfl) (by kernel_rfl) (by kernel_rfl) (fun _ _ _ h => h) (Or.inl ⟨by rfl, fun w' hw' => by exact exec_build 59 _ rfl _ _ (by kernel_rfl)⟩) hS ?_
  simp only [Act.put, List.setIfInBounds_toArray, List.set_cons_zero, List.set_cons_succ]
  refine wpAnyH_ready (rs := [15]) (by kernel_rfl) (by simp) ?_
  refine AllReadyH.cons rfl (fun K hK => ?_) AllReadyH.nil
  refine step_storeK _ rfl none rfl (.tmp 2) (.tmp 17) 59 rfl w1.heap.size (pv nl nl nl nl nl nl) (pv (.slice o0 8 c0) (.slice o1 8 c1) (.slice ao al.length ca) (.slice o3 8 c3) (.slice o4 8 c4) (.slice co cl.length cc)) rfl rfl HR.out rfl rowy_parts.2 (pv_one _ _ _ _ _ _ (slc_sl _ _ _) (slc_sl _ _ _) (slc_sl _ _ _) (slc_sl _ _ _) (slc_sl _ _ _) (slc_sl _ _ _)) ?_
  intro x6 v9 B9 E9
  have HQ : Hid (Vr x6 w1.heap.size (pv (.slice o0 8 c0) (.slice o1 8 c1) (.slice ao al.length ca) (.slice o3 8 c3) (.slice o4 8 c4) (.slice co cl.length cc))) := v9
  have Y0 : Hid (Byt x6 (.slice o0 8 c0) (be g 8)) := byt_nob Y0.out NB_HR.out E9
  have Y1 : Hid (Byt x6 (.slice o1 8 c1) (be p 8)) := byt_nob Y1.out NB_HR.out E9
  have Y3 : Hid (Byt x6 (.slice o3 8 c3) (be b 8)) := byt_nob Y3.out NB_HR.out E9
  have Y4 : Hid (Byt x6 (.slice o4 8 c4) (be 0 8)) := byt_nob Y4.out NB_HR.out E9
  have hS : Below w.heap.size w x6 ∧ x6.rangeAt w.heap.size 0 (rv g p (.slice ao al.length ca) b (.slice co cl.length cc) S) := ⟨hS.1.trans (B9.mono LE_HR.out), range_heap hS.2 (E9 _ (Nat.ne_of_lt LT_HB0_HR.out))⟩
  clear v9 B9 E9
  refine hK.out _ _ hS (fun _ => ?_)
  simp only [Act.put]
  clear hK K
  refine wpAnyH_done (by kernel_rfl) ?_ _
  have BZ : Hid (Below w.heap.size w x6) := hS.1
  clear hS
  go_wp2
  exact bodyPost_ret (v := .agg (pv (.slice o0 8 c0) (.slice o1 8 c1) (.slice ao al.length ca) (.slice o3 8 c3) (.slice o4 8 c4) (.slice co cl.length cc)).toArray) (results_c rfl _ _ w1.heap.size _ rowy_parts rfl HQ.out.1) rfl ⟨_, _, _, _, _, _, _, _, rfl, Y0.out, Y1.out, Y3.out, (by rw [← be0]; exact Y4.out), BZ.out⟩
end Go.Proofs.YtmbfccclghnaeaaDoor.re

/- The table of a record's sizes; what record's cut answers. No claim of its own. -/
namespace Go.Proofs.YtmbfccclghnaeaaDoor.re
open Go.RowKit Go.Proofs.YtmbfccclghnaeaaDoor.fa Go.Proofs.YtmbfccclghnaeaaDoor.he Go.Proofs.YtmbfccclghnaeaaDoor.so
set_option maxRecDepth 20000

/-- the table of sizes lies in w -/
def Tb2 (w : World) : Prop := ∀ i : Nat, i < 6 → w.cell? ⟨1, i, none⟩ = some (.int .i64 (gb [8, 8, 16, 8, 8, 32] i))
theorem Tb2.lt {w : World} (h : Tb2 w) : 1 < w.heap.size := World.block_lt_of_cell? w _ (h 0 (by omega))
theorem Tb2.below {w w' : World} {B : Nat} (h : Tb2 w) (hb : Below B w w') (hB : 1 < B) : Tb2 w' := fun i hi => by
  have := h i hi
  rw [hb.cell hB]; exact this
theorem Tb2.range {w : World} (h : Tb2 w) : w.rangeAt 1 0 (([8, 8, 16, 8, 8, 32] : List Int).map (Value.int .i64)) := fun j v hv => by
  have hj : j < 6 := by have := (List.getElem?_eq_some_iff.1 hv).1; simpa using this
  have key : ∀ (l : List Int) j, j < l.length → (l.map (Value.int .i64))[j]? = some (.int .i64 (gb l j)) := fun l j h => by simp [gb, List.getD, h]
  rw [Nat.zero_add, h j hj, ← hv, key [8, 8, 16, 8, 8, 32] j hj]
theorem rowy_sz : Rowy 90 6 := ⟨⟨_, Tryd.underlying90, rfl⟩, by kernel_rfl⟩
/-- what the rows' lists of variables give: the two tables -/
theorem gTb2 : Tryd.prog.globalNamed "nepenthe/record.sizes" = some 1 := by kernel_rfl
theorem gTb2Type : (Tryd.prog.globals[1]?).map (·.type) = some 90 := by kernel_rfl
theorem cells_arr6i : Tryd.prog.cellsOf 90 = 6 := by kernel_rfl
theorem tables {W : World} (h : laidMetH Tryd.prog [("nepenthe/slot.sizes", Rows.laid_nepenthe_slot_sizes), ("nepenthe/record.sizes", Rows.laid_nepenthe_record_sizes)] W) : Tbl W ∧ Tb2 W := by
  constructor
  · have t := Lib.tabIs_of_head (rest := [("nepenthe/record.sizes", Rows.laid_nepenthe_record_sizes)]) (zs := [1, 3, 4, 8, 8]) (k := .i64) so.gTab so.gTabType Tryd.underlying86 Tryd.underlying3 cells_int so.cells_arr5i h
    intro i hi
    have := t.cell so.gTab i hi
    rw [this]
    rfl
  · obtain ⟨ps, ⟨-, -, -, -, -, q, -, -, -, -, hrest, -⟩, -⟩ := h
    obtain ⟨g', t', cs, fuel, p, q, hg', ht', hvar, hd, _, _⟩ := hrest
    obtain rfl := Option.some.inj (gTb2.symm.trans hg')
    obtain rfl := Option.some.inj (gTb2Type.symm.trans ht')
    have t : Lib.TabIs Tryd.prog W "nepenthe/record.sizes" .i64 [8, 8, 16, 8, 8, 32] := by
      unfold Lib.TabIs
      rw [hvar, ← Lib.cells_of_tab (zs := [8, 8, 16, 8, 8, 32]) (k := .i64) Tryd.underlying90 Tryd.underlying3 cells_int cells_arr6i hd]
    intro i hi
    have := t.cell gTb2 i hi
    rw [this]
    rfl
/-- one cell of a variable is written, in a region that draws its order -/
theorem step_setC {ops : Array Oper} {o : Oper} {a : Act} {Q : Exit → Act → World → Prop} {K : Act → World → Prop} {E : Prop} (w : World) (hg : o.guard = none) (d : Option Tmp) (hd : o.dst = d) (x y : Operand) (t : TypeId) (hop : o.op = Op.store t x y) (cs : List Value) (c j : Nat) (v : Value) (hx : a.eval x = .pointer (some ⟨c, j, none⟩)) (hy : a.eval y = v) (hV : Vr w c cs) (hN : NoB w c) (hj : j < cs.length) (h1 : Slc v) (hi : (Tryd.prog.info? t).map (·.size) = some 1)
    (hK : ∀ w', Vr w' c (cs.set j v) → NoB w' c → Below c w w' → (∀ k, k ≠ c → w'.heap[k]? = w.heap[k]?) → K (a.put d undef) w') : if Region.wanted o (yielded ops a.tmps) = true then Oper.wp Tryd.prog o a w K Q else E := by
  have hw : Region.wanted o (yielded ops a.tmps) = true := by simp [Region.wanted, hg]
  rw [if_pos hw]
  subst hd
  obtain ⟨h1, hc, hv, -⟩ := h1
  have hcell := hV.cell j _ (List.getElem?_eq_getElem hj)
  have hf := hV.free j hj
  have hr : (storeVar t ⟨c, j, none⟩ v).run Tryd.prog w = .ok () (w.setCell ⟨c, j, none⟩ v) := by
    have e0 : ∀ i, i < [v].length → i = 0 := fun i hi => by simpa using hi
    have := run_storeCells_cells (P := Tryd.prog) c j [v] 0 w (fun i hi => by rw [e0 i hi]; simp [hcell]) (fun i hi => by rw [e0 i hi]; simpa using hf) (fun z hz => by simp at hz; subst hz; exact h1)
    cases hq : Tryd.prog.info? t with
    | none => simp [hq] at hi
    | some i =>
      have hs : i.size = 1 := by simpa [hq] using hi
      simp only [Nat.add_zero] at this
      simp [storeVar, sizeOf, typeInfo, hq, hc, hs]
      simpa [World.setCells] using this
  unfold Oper.wp execOp
  simp only [hop, hx, hy, Instr.storeAt, Instr.sureAddr, Sem.run_bind, Sem.run_pure, Result.andThen_ok, hr]
  exact hK _ (hV.set j hj v) (hN.one hcell hv) ((Below.refl c w).setCell (p := ⟨c, j, none⟩) (Nat.le_refl _) _) (fun k hk => heap_one w c j v k hk)
/-- how many bytes a part has; where it begins -/
def szN (k : Nat) : Nat := [8, 8, 16, 8, 8, 32].getD k 0
def atN (k : Nat) : Nat := [0, 8, 16, 32, 40, 48, 80].getD k 0
theorem six {P : Nat → Prop} (h0 : P 0) (h1 : P 1) (h2 : P 2) (h3 : P 3) (h4 : P 4) (h5 : P 5) : ∀ k, k < 6 → P k := fun k hk =>
  match k, hk with
  | 0, _ => h0
  | 1, _ => h1
  | 2, _ => h2
  | 3, _ => h3
  | 4, _ => h4
  | 5, _ => h5
theorem at_succ : ∀ k, k < 6 → atN k + szN k = atN (k + 1) ∧ atN (k + 1) ≤ 80 := six ⟨rfl, by decide⟩ ⟨rfl, by decide⟩ ⟨rfl, by decide⟩ ⟨rfl, by decide⟩ ⟨rfl, by decide⟩ ⟨rfl, by decide⟩
theorem run_sz (w : World) : ∀ k : Nat, k < 6 → (Instr.index 90 (.agg (([8, 8, 16, 8, 8, 32] : List Int).map (Value.int .i64)).toArray) (.int .i64 (k : Int))).run Tryd.prog w = .ok (.int .i64 ((szN k : Nat) : Int)) w :=
  six (by kernel_rfl) (by kernel_rfl) (by kernel_rfl) (by kernel_rfl) (by kernel_rfl) (by kernel_rfl)
theorem take_sub (xs : List Int) (l n h : Nat) (e : l + n = h) : (xs.drop l).take n = sub xs l h := by
  unfold sub
  rw [← e, List.drop_take, Nat.add_sub_cancel_left]
theorem getD_set_same (l : List Value) (k : Nat) (v : Value) (h : k < l.length) : (l.set k v).getD k undef = v := by simp [List.getD, h]
theorem getD_set_other (l : List Value) (k j : Nat) (v : Value) (h : j ≠ k) : (l.set k v).getD j undef = l.getD j undef := by simp [List.getD, List.getElem?_set_ne (Ne.symm h)]
theorem slc_set {l : List Value} {k : Nat} {v : Value} (hl : l.length = 6) (_hk : k < 6) (h : ∀ j, j < 6 → Slc (l.getD j undef)) (hv : Slc v) : ∀ j, j < 6 → Slc ((l.set k v).getD j undef) := fun j hj => by
  by_cases e : j = k
  · rw [e, getD_set_same _ _ _ (by omega)]; exact hv
  · rw [getD_set_other _ _ _ _ e]; exact h j hj
theorem list6 {l : List Value} (h : l.length = 6) : l = pv (l.getD 0 undef) (l.getD 1 undef) (l.getD 2 undef) (l.getD 3 undef) (l.getD 4 undef) (l.getD 5 undef) := by
  match l, h with
  | [a, b, c, d, e, f], _ => rfl
theorem getD_mem (l : List Value) (P : Value → Prop) (h : ∀ j, j < l.length → P (l.getD j undef)) : ∀ x ∈ l, P x := fun x hx => by
  obtain ⟨j, hj, rfl⟩ := List.getElem_of_mem hx
  have := h j hj
  rwa [List.getD_eq_getElem?_getD, List.getElem?_eq_getElem hj] at this

set_option linter.unusedSimpArgs false in
set_option maxHeartbeats 4000000 in
theorem cut_any (v : Value) (xs : List Int) (w : World) (hb : Byt w v xs) (hl : xs.length = 624) (hT : Tb2 w) :
    Calls Tryd.prog 36 #[v] w fun x w' => ∃ v0 v1 v2 v3 v4 v5 r, x = .returned (.tuple #[.agg (pv v0 v1 v2 v3 v4 v5).toArray, r]) ∧ (Byt w' v0 (sub xs 0 8) ∧ Byt w' v1 (sub xs 8 16) ∧ Byt w' v2 (sub xs 16 32) ∧ Byt w' v3 (sub xs 32 40) ∧ Byt w' v4 (sub xs 40 48) ∧ Byt w' v5 (sub xs 48 80) ∧ Byt w' r (xs.drop 80)) ∧ Below w.heap.size w w' := by
  have HB : Hid (Byt w v xs) := hb
  have HL : Hid (xs.length = 624) := hl
  have HT : Hid (Tb2 w) := hT
  have TL : Hid (1 < w.heap.size) := hT.lt
  clear hb hl hT
  have t0 : (0 : Nat) = 0 := rfl
  go_enter Tryd.func36, Tryd.ntmps36
  go_wp2_with (first
    | (have q2 := t2; refine load_lawC _ rfl (([8, 8, 16, 8, 8, 32] : List Int).map (Value.int .i64)) 1 0 rfl ((HT.out.below BB.out TL.out).range) rowy_sz ?_; clear t2; have t3 : (1 : Nat) = 1 := rfl)
    | (have q1 := t1; (with_reducible refine at_alloc ?_); refine new_lawN _ (pv nl nl nl nl nl nl) zero_parts (pv_nob _ _ _ _ _ _ nl_slc nl_slc nl_slc nl_slc nl_slc nl_slc) ?_; intro w2 X9 N9 B9; have LT_HR_HG : Hid (w.heap.size < w1.heap.size) := range_lt HR.out.1 (Nat.succ_pos _); have LE_HG : Hid (w.heap.size ≤ w1.heap.size) := BB.out.size; have NB_HR : Hid (NoB w2 w.heap.size) := NB_HR.out.heap (B9.block _ (range_lt HR.out.1 (Nat.succ_pos _))); have HR : Hid (Vr w2 w.heap.size (pv nl nl nl nl nl nl)) := HR.out.below B9 (range_lt HR.out.1 (Nat.succ_pos _)); have HG : Hid (Vr w2 w1.heap.size (pv nl nl nl nl nl nl)) := X9; have NB_HG : Hid (NoB w2 w1.heap.size) := N9; have BB : Hid (Below w.heap.size w w2) := BB.out.trans (B9.mono BB.out.size); clear X9 N9 B9; clear t1; have t2 : (1 : Nat) = 1 := rfl)
    | (have q0 := t0; (with_reducible refine at_alloc ?_); refine new_lawN _ (pv nl nl nl nl nl nl) zero_parts (pv_nob _ _ _ _ _ _ nl_slc nl_slc nl_slc nl_slc nl_slc nl_slc) ?_; intro w1 X9 N9 B9; have LE_HR : Hid (w.heap.size ≤ w.heap.size) := Nat.le_refl _; have HR : Hid (Vr w1 w.heap.size (pv nl nl nl nl nl nl)) := X9; have NB_HR : Hid (NoB w1 w.heap.size) := N9; have BB : Hid (Below w.heap.size w w1) := B9; clear X9 N9 B9; clear t0; have t1 : (1 : Nat) = 1 := rfl))
  have hne : w.heap.size ≠ w1.heap.size := Nat.ne_of_lt LT_HR_HG.out
  go_loopw [8, 0] (fun i z wr => ∃ (k : Nat) (l : List Value), k ≤ 6 ∧ i = .int .i64 (k : Int) ∧ l.length = 6 ∧ (∀ j, j < 6 → Slc (l.getD j undef)) ∧ (∀ j, j < k → Byt wr (l.getD j undef) (sub xs (atN j) (atN (j + 1)))) ∧ Byt wr z (xs.drop (atN k)) ∧ Vr wr w1.heap.size l ∧ NoB wr w1.heap.size ∧ Vr wr w.heap.size (pv nl nl nl nl nl nl) ∧ NoB wr w.heap.size ∧ Below w.heap.size w wr) (fun i _ _ => 6 - (intOf i).toNat)
  case atStart => exact ⟨0, (pv nl nl nl nl nl nl), Nat.zero_le _, rfl, rfl, six nl_slc nl_slc nl_slc nl_slc nl_slc nl_slc, upto_zero, HB.out.below BB.out, HG.out, NB_HG.out, HR.out, NB_HR.out, BB.out⟩
  case round =>
    clear HG HR NB_HR NB_HG BB
    obtain ⟨k, l, hk6, rfl, ll, ls, hj, hz, vg, ng, hr, nr, hBl⟩ := hrel
    have LL : Hid (l.length = 6) := ll
    have LS : Hid (∀ j, j < 6 → Slc (l.getD j undef)) := ls
    have HJ : Hid (∀ j, j < k → Byt wr (l.getD j undef) (sub xs (atN j) (atN (j + 1)))) := hj
    have YZ : Hid (Byt wr u0 (xs.drop (atN k))) := hz
    have VG : Hid (Vr wr w1.heap.size l) := vg
    have NG : Hid (NoB wr w1.heap.size) := ng
    have HR : Hid (Vr wr w.heap.size (pv nl nl nl nl nl nl)) := hr
    have NB : Hid (NoB wr w.heap.size) := nr
    have BB : Hid (Below w.heap.size w wr) := hBl
    clear ll ls hj hz vg ng hr nr hBl
    by_cases hk : k < 6
    · have hsz := at_succ k hk
      have L1 : Hid (szN k ≤ (xs.drop (atN k)).length) := (by show _ ≤ _; rw [List.length_drop, HL.out]; omega)
      have L2 : Hid ((xs.drop (atN k)).length = 624 - atN k) := (by show _ = _; rw [List.length_drop, HL.out])
      have L3 : Hid (szN k ≤ 624 - atN k) := (by show _ ≤ _; omega)
      have YA : Hid (Byt wr (sl u0 0 (szN k)) (sub xs (atN k) (atN (k + 1)))) := (by have := sl_to YZ.out (szN k) L1.out; rwa [take_sub _ _ _ _ hsz.1] at this)
      have YB : Hid (Byt wr (sl u0 (szN k) (624 - atN k)) (xs.drop (atN (k + 1)))) := (by have := sl_from YZ.out (szN k) L1.out; rwa [L2.out, List.drop_drop, hsz.1] at this)
      have SS : Hid (Slc (sl u0 0 (szN k))) := slc_byt YA.out
      have ki : (k : Int) < 6 := by omega
      clear hsz
      have t0 : (0 : Nat) = 0 := rfl
      go_wp2_with (first
        | (have q0 := t0; refine idx_law _ rfl (.tmp 7) (.tmp 8) 90 rfl _ _ (.int .i64 ((szN k : Nat) : Int)) rfl rfl (run_sz _ k hk) ?_; clear t0))
      have VG : Hid (Vr wr.drew w1.heap.size l) := VG.out.drewN 1
      have NG : Hid (NoB wr.drew w1.heap.size) := NG.out.heap rfl
      have HR : Hid (Vr wr.drew w.heap.size (pv nl nl nl nl nl nl)) := HR.out.drewN 1
      have NB : Hid (NoB wr.drew w.heap.size) := NB.out.heap rfl
      have YA : Hid (Byt wr.drew (sl u0 0 (szN k)) (sub xs (atN k) (atN (k + 1)))) := YA.out
      have YB : Hid (Byt wr.drew (sl u0 (szN k) (624 - atN k)) (xs.drop (atN (k + 1)))) := YB.out
      have HJ : Hid (∀ j, j < k → Byt wr.drew (l.getD j undef) (sub xs (atN j) (atN (j + 1)))) := HJ.out
      refine wp_region_held_drew (S := fun w' => Below w.heap.size w w') (by kernel_rfl) BB.out.drew (fun hS => ?_)
      obtain ⟨x1, hx0⟩ : ∃ x, x = wr.drew := ⟨_, rfl⟩
      rw [← hx0] at hS VG NG HR NB YA YB HJ ⊢
      clear hx0
      refine take_lawH 0 (some 12) (.int .i64 (k : Int)) rfl rfl (by kernel_rfl) (by kernel_rfl) (by kernel_rfl) (fun _ _ _ h => h) (Or.inl ⟨by rfl, fun w' hw' => by rfl⟩) hS ?_
      simp only [Act.put, List.setIfInBounds_toArray, List.set_cons_zero, List.set_cons_succ]
      refine take_lawH 1 (some 13) (u0) rfl rfl (by kernel_rfl) (by kernel_rfl) (by kernel_rfl) (fun _ _ _ h => h) (Or.inl ⟨by rfl, fun w' hw' => by rfl⟩) hS ?_
      simp only [Act.put, List.setIfInBounds_toArray, List.set_cons_zero, List.set_cons_succ]
      refine take_lawH 2 (some 14) (.int .i64 ((szN k : Nat) : Int)) rfl rfl (by kernel_rfl) (by kernel_rfl) (by kernel_rfl) (fun _ _ _ h => h) (Or.inl ⟨by rfl, fun w' hw' => by rfl⟩) hS ?_
      simp only [Act.put, List.setIfInBounds_toArray, List.set_cons_zero, List.set_cons_succ]
      refine take_lawH 3 (some 15) (sl u0 0 (szN k)) rfl rfl (by kernel_rfl) (by kernel_rfl) (by kernel_rfl) (fun _ _ _ h => h) (Or.inl ⟨by rfl, fun w' hw' => by exact exec_to (.tmp 13) (.tmp 14) rfl _ (xs.drop (atN k)) _ YZ.out (szN k) rfl rfl L1.out _⟩) hS ?_
      simp only [Act.put, List.setIfInBounds_toArray, List.set_cons_zero, List.set_cons_succ]
      refine take_lawH 4 (some 16) (u0) rfl rfl (by kernel_rfl) (by kernel_rfl) (by kernel_rfl) (fun _ _ _ h => h) (Or.inl ⟨by rfl, fun w' hw' => by rfl⟩) hS ?_
      simp only [Act.put, List.setIfInBounds_toArray, List.set_cons_zero, List.set_cons_succ]
      refine take_lawH 5 (some 17) (.int .i64 ((szN k : Nat) : Int)) rfl rfl (by kernel_rfl) (by kernel_rfl) (by kernel_rfl) (fun _ _ _ h => h) (Or.inl ⟨by rfl, fun w' hw' => by rfl⟩) hS ?_
      simp only [Act.put, List.setIfInBounds_toArray, List.set_cons_zero, List.set_cons_succ]
      refine take_lawH 6 (some 18) (sl u0 (szN k) (624 - atN k)) rfl rfl (by kernel_rfl) (by kernel_rfl) (by kernel_rfl) (fun _ _ _ h => h) (Or.inl ⟨by rfl, fun w' hw' => by exact exec_from (.tmp 16) (.tmp 17) rfl _ (xs.drop (atN k)) _ YZ.out (szN k) (624 - atN k) rfl rfl L2.out L3.out _⟩) hS ?_
      simp only [Act.put, List.setIfInBounds_toArray, List.set_cons_zero, List.set_cons_succ]
      refine take_lawH 7 (some 19) (.pointer (some ⟨w1.heap.size, k, none⟩)) rfl rfl (by kernel_rfl) (by kernel_rfl) (by kernel_rfl) (fun _ _ _ h => h) (Or.inl ⟨by rfl, fun w' hw' => by go_simp⟩) hS ?_
      simp only [Act.put, List.setIfInBounds_toArray, List.set_cons_zero, List.set_cons_succ]
      refine wpAnyH_ready (rs := [8]) (by kernel_rfl) (by simp) ?_
      refine AllReadyH.cons rfl (fun K hK => ?_) AllReadyH.nil
      refine step_setC _ rfl none rfl (.tmp 19) (.tmp 15) 23 rfl l w1.heap.size k (sl u0 0 (szN k)) rfl rfl VG.out NG.out (by rw [LL.out]; exact hk) SS.out size_bytes ?_
      intro x2 v9 n9 B9 E9
      have VG : Hid (Vr x2 w1.heap.size (l.set k (sl u0 0 (szN k)))) := v9
      have YA : Hid (Byt x2 (sl u0 0 (szN k)) (sub xs (atN k) (atN (k + 1)))) := byt_nob YA.out NG.out E9
      have YB : Hid (Byt x2 (sl u0 (szN k) (624 - atN k)) (xs.drop (atN (k + 1)))) := byt_nob YB.out NG.out E9
      have HJ : Hid (∀ j, j < k → Byt x2 (l.getD j undef) (sub xs (atN j) (atN (j + 1)))) := fun j hj => byt_nob (HJ.out j hj) NG.out E9
      have NG : Hid (NoB x2 w1.heap.size) := n9
      have HR : Hid (Vr x2 w.heap.size (pv nl nl nl nl nl nl)) := HR.out.heap (E9 _ hne)
      have NB : Hid (NoB x2 w.heap.size) := NB.out.heap (E9 _ hne)
      have hS : Below w.heap.size w x2 := hS.trans (B9.mono LE_HG.out)
      clear v9 n9 B9 E9
      refine hK.out _ _ hS (fun _ => ?_)
      simp only [Act.put]
      clear hK K
      refine take_lawH 9 (some 0) (sl u0 (szN k) (624 - atN k)) rfl rfl (by kernel_rfl) (by kernel_rfl) (by kernel_rfl) (fun _ _ _ h => h) (Or.inl ⟨by rfl, fun w' hw' => by rfl⟩) hS ?_
      simp only [Act.put, List.setIfInBounds_toArray, List.set_cons_zero, List.set_cons_succ]
      refine wpAnyH_done (by kernel_rfl) ?_ _
      have BZ : Hid (Below w.heap.size w x2) := hS
      clear hS
      go_wp2
      go_roundw
      case rel => exact ⟨k + 1, l.set k (sl u0 0 (szN k)), by omega, by go_num, by rw [List.length_set]; exact LL.out, slc_set LL.out hk LS.out SS.out, upto_succ (fun j hj => (by rw [getD_set_other _ _ _ _ (Nat.ne_of_lt hj)]; exact HJ.out j hj)) (by rw [getD_set_same _ _ _ (by rw [LL.out]; exact hk)]; exact YA.out), YB.out, VG.out, NG.out, HR.out, NB.out, BZ.out⟩
      case measure => simp [intOf]; omega
    · have e6 : k = 6 := by omega
      subst e6
      have Y0 := hdH (HJ.out 0 (by omega))
      have Y1 := hdH (HJ.out 1 (by omega))
      have Y2 := hdH (HJ.out 2 (by omega))
      have Y3 := hdH (HJ.out 3 (by omega))
      have Y4 := hdH (HJ.out 4 (by omega))
      have Y5 := hdH (HJ.out 5 (by omega))
      have YR : Hid (Byt wr u0 (xs.drop 80)) := YZ.out
      have el := list6 LL.out
      obtain ⟨v0, e0⟩ : ∃ z, l.getD 0 undef = z := ⟨_, rfl⟩
      obtain ⟨v1, e1⟩ : ∃ z, l.getD 1 undef = z := ⟨_, rfl⟩
      obtain ⟨v2, e2⟩ : ∃ z, l.getD 2 undef = z := ⟨_, rfl⟩
      obtain ⟨v3, e3⟩ : ∃ z, l.getD 3 undef = z := ⟨_, rfl⟩
      obtain ⟨v4, e4⟩ : ∃ z, l.getD 4 undef = z := ⟨_, rfl⟩
      obtain ⟨v5, e5⟩ : ∃ z, l.getD 5 undef = z := ⟨_, rfl⟩
      rw [e0, e1, e2, e3, e4, e5] at el
      rw [e0] at Y0
      rw [e1] at Y1
      rw [e2] at Y2
      rw [e3] at Y3
      rw [e4] at Y4
      rw [e5] at Y5
      clear HJ LS e0 e1 e2 e3 e4 e5 LL
      subst el
      have NB_HR := NB
      have t0 : (0 : Nat) = 0 := rfl
      have LE_HR : Hid (w.heap.size ≤ w.heap.size) := Nat.le_refl _
      go_wp2_with (first
        | (have q1 := t1; (with_reducible refine at_store ?_); refine store_lawC _ (pv v0 v1 v2 v3 v4 v5) w.heap.size 0 rfl rfl HR.out.2 rowy_parts.2 (pv_one _ _ _ _ _ _ (slc_byt Y0.out) (slc_byt Y1.out) (slc_byt Y2.out) (slc_byt Y3.out) (slc_byt Y4.out) (slc_byt Y5.out)) ?_; intro w41 E9 R9 T9 B9; have K9 : ∀ k, k ≠ w.heap.size → w41.heap[k]? = wr.heap[k]? := (by rw [E9.out]; exact fun k hk => heap_cells _ _ _ _ k hk); have Y0 : Hid (Byt w41 v0 (sub xs 0 8)) := byt_nob Y0.out NB_HR.out K9; have Y1 : Hid (Byt w41 v1 (sub xs 8 16)) := byt_nob Y1.out NB_HR.out K9; have Y2 : Hid (Byt w41 v2 (sub xs 16 32)) := byt_nob Y2.out NB_HR.out K9; have Y3 : Hid (Byt w41 v3 (sub xs 32 40)) := byt_nob Y3.out NB_HR.out K9; have Y4 : Hid (Byt w41 v4 (sub xs 40 48)) := byt_nob Y4.out NB_HR.out K9; have Y5 : Hid (Byt w41 v5 (sub xs 48 80)) := byt_nob Y5.out NB_HR.out K9; have YR : Hid (Byt w41 u0 (xs.drop 80)) := byt_nob YR.out NB_HR.out K9; have NB_HR : Hid (NoB w41 w.heap.size) := (by rw [E9.out]; exact NB_HR.out.set HR.out rfl (pv_nob _ _ _ _ _ _ (slc_byt Y0.out) (slc_byt Y1.out) (slc_byt Y2.out) (slc_byt Y3.out) (slc_byt Y4.out) (slc_byt Y5.out))); have HR : Hid (Vr w41 w.heap.size (pv v0 v1 v2 v3 v4 v5)) := ⟨R9, T9⟩; have BB : Hid (Below w.heap.size w w41) := BB.out.trans (B9.mono LE_HR.out); clear E9 R9 T9 B9 K9; clear t1; have t2 : (1 : Nat) = 1 := rfl)
        | (have q0 := t0; refine load_lawC _ rfl (pv v0 v1 v2 v3 v4 v5) w1.heap.size 0 rfl VG.out.1 rowy_parts ?_; clear t0; have t1 : (1 : Nat) = 1 := rfl))
      exact bodyPost_ret (v := .tuple #[.agg (pv v0 v1 v2 v3 v4 v5).toArray, u0]) (results_cv rfl _ _ w.heap.size _ _ rowy_parts rfl rfl HR.out.1) rfl ⟨_, _, _, _, _, _, _, rfl, ⟨Y0.out, Y1.out, Y2.out, Y3.out, Y4.out, Y5.out, YR.out⟩, BB.out⟩
end Go.Proofs.YtmbfccclghnaeaaDoor.re

