/- Texts put together. -/
import Derived.Test.YtikcohjhhoiakaaPk28
import Derived.Test.YtikcohjhhoiakaaPk29
import Derived.Test.YtikcohjhhoiakaaPk30
import Derived.Test.YtikcohjhhoiakaaPk00
import Derived.Deep.DeepHandedRow
import Derived.Lib.LaidTab
import Derived.Deep.Matrix
import Derived.Test.YtikcohjhhoiakaaPk02
import Derived.Deep.Slices
import Derived.Test.YtikcohjhhoiakaaPk06
import Derived.Test.YtikcohjhhoiakaaPk15
import Derived.Test.YtikcohjhhoiakaaPk17
import Derived.Test.YtikcohjhhoiakaaPk01
set_option maxHeartbeats 8000000
namespace Go.Proofs.Ytikcohjhhoiakaa.na
open Go.RowKit Go.Proofs.Ytikcohjhhoiakaa.fa
set_option maxRecDepth 20000
def ysOf (S : Nat) (x : Int) : List Int := if x = 7 then (bts S 7).drop 1 else bts S x
theorem ys7 (S : Nat) : ysOf S 7 = (bts S 7).drop 1 := if_pos rfl
theorem ysn (S : Nat) {x : Int} (h : x ≠ 7) : ysOf S x = bts S x := if_neg h
def nxt (N P S : Nat) (pl : Pln) (s : St) (l : List Opn) (k b p x : Int) (on : Bool) : St × List Opn :=
 if k = 1 then match pno N P S s b p (ysOf S x) with
  | some _ => (s, l)
  | none => (pdo S pl s b.toNat p.toNat (ysOf S x), l ++ [opn 1 b.toNat p.toNat (ysOf S x) (ans (pl (ops s)))])
 else if k = 2 then match eno N s b with
  | some _ => (s, l)
  | none => (edo P S pl s b.toNat, l ++ [opn 2 b.toNat 0 [] (ans (pl (ops s)))])
 else if k = 3 then match eno N s b with
  | some _ => (s, l)
  | none => (sdo P S pl s b.toNat, l ++ [opn 3 b.toNat 0 [] (ans (pl (ops s)))])
 else if k = 4 then match kno N P S s b p p with
  | some _ => (s, l)
  | none => (kdo s b.toNat p.toNat p.toNat x, l)
 else if k = 5 then (pwr s on, l) else (s, l)
def Sim (M E : Nat → Bool) (w : World) (c r d : Nat) (q : Nat → Nat) (pv : Value) (g : List Int) (N P S : Nat) (pl : Pln) (s : St) (l : List Opn) (v : Value) : Prop :=
 ∃ tv, Lay M w c r d q pv tv g N P S pl (raw N P s l) ∧ Ref (hid (uni M E) w) v g N P pl s ∧ Mlt M w ∧ Pla (hid (uni M E) w) pv pl
def Inv (N P S : Nat) (s : St) (l : List Opn) : Prop := Wf N P S s ∧ Lsp N P s ∧ Trc N P s l
theorem inv_new (N P S : Nat) : Inv N P S (new S) [] := ⟨new_wf N P S, lsp_new N P S, trc_new N P S⟩
theorem inv_nxt {N P S : Nat} {s : St} {l : List Opn} (h : Inv N P S s l) (pl : Pln) (k b p x : Int) (hx : 0 ≤ x ∧ x ≤ 255) (on : Bool) : Inv N P S (nxt N P S pl s l k b p x on).1 (nxt N P S pl s l k b p x on).2 := by
 obtain ⟨h1, h2, h3⟩ := h
 unfold nxt
 split
 ·split
  ·exact ⟨h1, h2, h3⟩
  ·rename_i hp
   obtain ⟨-, ⟨q1, q2, q3, q4, -⟩, -, q7, -⟩ := pno_none hp
   exact ⟨pdo_wf h1 pl _ _ _ (by omega) q7, lsp_pdo h1 h2 pl _ _ (by omega) _, trc_pdo h3 pl _ _ _ _ (by omega) (by omega) q7⟩
 ·split
  ·split
   ·exact ⟨h1, h2, h3⟩
   ·exact ⟨edo_wf h1 pl _, lsp_edo h2 pl _, trc_edo h3 pl _ _⟩
  ·split
   ·split
    ·exact ⟨h1, h2, h3⟩
    ·exact ⟨sdo_wf h1 pl _, lsp_sdo h2 pl _, trc_sdo h3 pl _ _ _⟩
   ·split
    ·split
     ·exact ⟨h1, h2, h3⟩
     ·rename_i hp
      obtain ⟨-, q1, q2, q3, q4, q5, q6⟩ := kno_none hp
      exact ⟨kdo_wf h1 _ _ _ x hx (by omega), lsp_kdo h2 _ _ _ x, trc_kdo h3 _ _ _ x⟩
    ·split
     ·exact ⟨pwr_wf h1 on, lsp_pwr h2 on, trc_pwr h3 on⟩
     ·exact ⟨h1, h2, h3⟩
section
variable {M : Nat → Bool} {w : World} {c r d : Nat} {q : Nat → Nat} {pv tv : Value} {g : List Int} {N P S : Nat} {pl : Pln} {X : Raw} {s : St} {l : List Opn} {v : Value}
theorem done_no {f : FuncId} {vs : Array Value} {x : Int} (h : Lay M w c r d q pv tv g N P S pl X) (hM : Mlt M w) (hc : Calls Try.prog f vs w fun e w' => e = .returned (.int .i64 x) ∧ Below w.heap.size w w') : Calls Try.prog f vs w (Done M w c r d q pv g N P S pl x X) :=
 hc.mono fun _ _ ⟨h1, h2⟩ => ⟨M, tv, h1, h.below h2, fun _ _ => rfl, Frm.of_below h2, fun k hk => Nat.lt_of_lt_of_le (hM k hk) h2.size⟩
theorem ref_no {f : FuncId} {vs : Array Value} {x : Int} (h : Ref (hid M w) v g N P pl s) (hc : Calls Try.prog f vs w fun e w' => e = .returned (.tuple #[v, .int .i64 x]) ∧ Below w.heap.size w w') : Calls Try.prog f vs w fun e w' => ∃ v', e = .returned (.tuple #[v', .int .i64 x]) ∧ Ref (hid M w') v' g N P pl s ∧ Below w.heap.size w w' :=
 hc.mono fun _ _ ⟨h1, h2⟩ => ⟨v, h1, h.below (below_hid h2), h2⟩
theorem ref_pwr {bv pw : Value} {o : Bool} {n : Int} {g2 g3 g4 g5 : Int} (h : Ref w (.agg (chr [(N : Int), P, g2, g3, g4, g5] bv pw o n).toArray) [(N : Int), P, g2, g3, g4, g5] N P pl s) (on : Bool) : Ref w (.agg (chr [(N : Int), P, g2, g3, g4, g5] bv pw (!on) n).toArray) [(N : Int), P, g2, g3, g4, g5] N P pl (pwr s on) := by
 obtain ⟨bv', pv', gv, uv, e, h1, h2, h3⟩ := h
 simp [chr] at e
 obtain ⟨rfl, rfl, -, rfl⟩ := e
 exact ⟨bv, pw, gv, uv, rfl, h1, h2, h3⟩
theorem raw_pwr (N P : Nat) (s : St) (l : List Opn) (on : Bool) : mkX (xi (raw N P s l)) (xp (raw N P s l)) (xe (raw N P s l)) (xs (raw N P s l)) on (xt (raw N P s l)) = raw N P (pwr s on) l := by
 cases on <;> rfl
end
theorem step_any {M E : Nat → Bool} {w : World} {c r d : Nat} {q : Nat → Nat} {pv : Value} {g : List Int} {N P S : Nat} {pl : Pln} {s : St} {l : List Opn} {v : Value} (hs : Shp g N P S) (hI : Inv N P S s l) (hn : ops s ≤ 1000000) (hE : Mlt E w) (h : Sim M E w c r d q pv g N P S pl s l v) (k b p x : Int) (hx : 0 ≤ x ∧ x ≤ 255) (on : Bool) :
  Calls Try.prog 15 #[.pointer (some ⟨c, 0, none⟩), v, .agg ([.int .i64 k, .int .i64 b, .int .i64 p, .int .u8 x, .bool on] : List Value).toArray] w fun e w' => ∃ M' v', e = .returned (.tuple #[v', .bool true]) ∧ Sim M' E w' c r d q pv g N P S pl (nxt N P S pl s l k b p x on).1 (nxt N P S pl s l k b p x on).2 v' ∧ (∀ k, k < w.heap.size → M' k = M k) ∧ Frm M w w' := by
 obtain ⟨tv, hL, hR, hM, hP⟩ := h
 obtain ⟨g2, g3, g4, g5, rfl⟩ := geo6 hs
 obtain ⟨bq, bc, po, pn, pc, gv, uv, rfl, -, -, -⟩ := ref_open hR
 obtain ⟨hW, hLs, hT⟩ := hI
 have hll : l.length = ops s := hT.1
 have fin : ∀ s2 l2, nxt N P S pl s l k b p x on = (s2, l2) → Calls Try.prog 15 #[.pointer (some ⟨c, 0, none⟩), .agg (chr [(N : Int), P, g2, g3, g4, g5] (.slice bq N bc) (.slice po pn pc) (off s) (ops s : Int)).toArray, .agg ([.int .i64 k, .int .i64 b, .int .i64 p, .int .u8 x, .bool on] : List Value).toArray] w (StpD M E w c r d q pv [(N : Int), P, g2, g3, g4, g5] N P S pl s2 (raw N P s2 l2)) →
   Calls Try.prog 15 #[.pointer (some ⟨c, 0, none⟩), .agg (chr [(N : Int), P, g2, g3, g4, g5] (.slice bq N bc) (.slice po pn pc) (off s) (ops s : Int)).toArray, .agg ([.int .i64 k, .int .i64 b, .int .i64 p, .int .u8 x, .bool on] : List Value).toArray] w fun e w' => ∃ M' v', e = .returned (.tuple #[v', .bool true]) ∧ Sim M' E w' c r d q pv [(N : Int), P, g2, g3, g4, g5] N P S pl (nxt N P S pl s l k b p x on).1 (nxt N P S pl s l k b p x on).2 v' ∧ (∀ k, k < w.heap.size → M' k = M k) ∧ Frm M w w' := by
  intro s2 l2 e z
  rw [e]
  exact z.mono fun e w' ⟨M', tv', v', h1, h2, h3, h4, h5, h6⟩ => ⟨M', v', h1, ⟨tv', h2, h3, h6, hP.below ((uni_frm h5).hid fun k hk => by simp [uni, h4 k hk])⟩, h4, h5⟩
 by_cases k1 : k = 1
 ·subst k1
  cases hp : pno N P S s b p (ysOf S x) with
  | some y =>
   refine fin s l (by simp [nxt, hp]) ?_
   by_cases h7 : x = 7
   ·subst h7
    rw [ys7] at hp
    exact step1b N P S g2 g3 g4 g5 hs bq bc po pn pc _ _ s s (raw N P s l) (raw N P s l) b p on y hL hM hE hR (fun M2 w1 yv hm hr hy => ref_no hr (rprog_no hs hr b p yv _ hy y hp)) (fun w1 yv hl hm hy => done_no hl hm (pprog_no hl hLs b p yv _ (hid_byt hy) y hp))
   ·rw [ysn S h7] at hp
    exact step1a N P S g2 g3 g4 g5 hs bq bc po pn pc _ _ s s (raw N P s l) (raw N P s l) b p x hx h7 on y hL hM hE hR (fun M2 w1 yv hm hr hy => ref_no hr (rprog_no hs hr b p yv _ hy y hp)) (fun w1 yv hl hm hy => done_no hl hm (pprog_no hl hLs b p yv _ (hid_byt hy) y hp))
  | none =>
   obtain ⟨-, ⟨a1, a2, a3, a4, -⟩, -⟩ := pno_none hp
   obtain ⟨b, rfl⟩ : ∃ n : Nat, b = n := ⟨b.toNat, by omega⟩
   obtain ⟨p, rfl⟩ : ∃ n : Nat, p = n := ⟨p.toNat, by omega⟩
   refine fin (pdo S pl s b p (ysOf S x)) (l ++ [opn 1 (b : Int) (p : Int) (ysOf S x) (ans (pl (ops s)))]) (by simp [nxt, hp]) ?_
   by_cases h7 : x = 7
   ·subst h7
    rw [ys7] at hp ⊢
    exact step1b N P S g2 g3 g4 g5 hs bq bc po pn pc _ _ s (pdo S pl s b p ((bts S 7).drop 1)) (raw N P s l) (raw N P (pdo S pl s b p ((bts S 7).drop 1)) (l ++ [opn 1 (b : Int) (p : Int) ((bts S 7).drop 1) (ans (pl (ops s)))])) (b : Int) (p : Int) on (ans (pl (ops s))) hL hM hE hR (fun M2 w1 yv hm hr hy => rprog_do hs hm hW hr hn b p yv _ hy hp) (fun w1 yv hl hm hy => pprog_do hl hm hW hLs hll hn b p yv _ hy hp)
   ·rw [ysn S h7] at hp ⊢
    exact step1a N P S g2 g3 g4 g5 hs bq bc po pn pc _ _ s (pdo S pl s b p (bts S x)) (raw N P s l) (raw N P (pdo S pl s b p (bts S x)) (l ++ [opn 1 (b : Int) (p : Int) (bts S x) (ans (pl (ops s)))])) (b : Int) (p : Int) x hx h7 on (ans (pl (ops s))) hL hM hE hR (fun M2 w1 yv hm hr hy => rprog_do hs hm hW hr hn b p yv _ hy hp) (fun w1 yv hl hm hy => pprog_do hl hm hW hLs hll hn b p yv _ hy hp)
 by_cases k2 : k = 2
 ·subst k2
  cases hp : eno N s b with
  | some y =>
   refine fin s l (by simp [nxt, hp]) ?_
   by_cases h7 : x = 7
   ·subst h7
    exact step2b N P S g2 g3 g4 g5 hs bq bc po pn pc _ _ s s (raw N P s l) (raw N P s l) b p on y hL hM hE hR (fun M2 w1 hm hr => ref_no hr (rer_ref hs hr b y hp)) (fun w1 hl hm => done_no hl hm (pers_no hl b y hp))
   ·exact step2a N P S g2 g3 g4 g5 hs bq bc po pn pc _ _ s s (raw N P s l) (raw N P s l) b p x hx h7 on y hL hM hE hR (fun M2 w1 hm hr => ref_no hr (rer_ref hs hr b y hp)) (fun w1 hl hm => done_no hl hm (pers_no hl b y hp))
  | none =>
   obtain ⟨-, a1, a2⟩ := eno_none hp
   obtain ⟨b, rfl⟩ : ∃ n : Nat, b = n := ⟨b.toNat, by omega⟩
   refine fin (edo P S pl s b) (l ++ [opn 2 (b : Int) 0 [] (ans (pl (ops s)))]) (by simp [nxt, hp]) ?_
   by_cases h7 : x = 7
   ·subst h7
    exact step2b N P S g2 g3 g4 g5 hs bq bc po pn pc _ _ s (edo P S pl s b) (raw N P s l) (raw N P (edo P S pl s b) (l ++ [opn 2 (b : Int) 0 [] (ans (pl (ops s)))])) (b : Int) p on (ans (pl (ops s))) hL hM hE hR (fun M2 w1 hm hr => rer_do hs hm hW hr hn b hp) (fun w1 hl hm => pers_do hl hm hW hll hn b hp)
   ·exact step2a N P S g2 g3 g4 g5 hs bq bc po pn pc _ _ s (edo P S pl s b) (raw N P s l) (raw N P (edo P S pl s b) (l ++ [opn 2 (b : Int) 0 [] (ans (pl (ops s)))])) (b : Int) p x hx h7 on (ans (pl (ops s))) hL hM hE hR (fun M2 w1 hm hr => rer_do hs hm hW hr hn b hp) (fun w1 hl hm => pers_do hl hm hW hll hn b hp)
 by_cases k3 : k = 3
 ·subst k3
  cases hp : eno N s b with
  | some y =>
   refine fin s l (by simp [nxt, hp]) ?_
   by_cases h7 : x = 7
   ·subst h7
    exact step3b N P S g2 g3 g4 g5 hs bq bc po pn pc _ _ s s (raw N P s l) (raw N P s l) b p on y hL hM hE hR (fun M2 w1 hm hr => ref_no hr (rsc_ref hs hr b y hp)) (fun w1 hl hm => done_no hl hm (pscr_no hl b y hp))
   ·exact step3a N P S g2 g3 g4 g5 hs bq bc po pn pc _ _ s s (raw N P s l) (raw N P s l) b p x hx h7 on y hL hM hE hR (fun M2 w1 hm hr => ref_no hr (rsc_ref hs hr b y hp)) (fun w1 hl hm => done_no hl hm (pscr_no hl b y hp))
  | none =>
   obtain ⟨-, a1, a2⟩ := eno_none hp
   obtain ⟨b, rfl⟩ : ∃ n : Nat, b = n := ⟨b.toNat, by omega⟩
   refine fin (sdo P S pl s b) (l ++ [opn 3 (b : Int) 0 [] (ans (pl (ops s)))]) (by simp [nxt, hp]) ?_
   by_cases h7 : x = 7
   ·subst h7
    exact step3b N P S g2 g3 g4 g5 hs bq bc po pn pc _ _ s (sdo P S pl s b) (raw N P s l) (raw N P (sdo P S pl s b) (l ++ [opn 3 (b : Int) 0 [] (ans (pl (ops s)))])) (b : Int) p on (ans (pl (ops s))) hL hM hE hR (fun M2 w1 hm hr => rsc_do hs hm hW hr hn b hp) (fun w1 hl hm => pscr_do hl hm hW hll hn b hp)
   ·exact step3a N P S g2 g3 g4 g5 hs bq bc po pn pc _ _ s (sdo P S pl s b) (raw N P s l) (raw N P (sdo P S pl s b) (l ++ [opn 3 (b : Int) 0 [] (ans (pl (ops s)))])) (b : Int) p x hx h7 on (ans (pl (ops s))) hL hM hE hR (fun M2 w1 hm hr => rsc_do hs hm hW hr hn b hp) (fun w1 hl hm => pscr_do hl hm hW hll hn b hp)
 by_cases k4 : k = 4
 ·subst k4
  cases hp : kno N P S s b p p with
  | some y =>
   refine fin s l (by simp [nxt, hp]) ?_
   by_cases h7 : x = 7
   ·subst h7
    exact step4b N P S g2 g3 g4 g5 hs bq bc po pn pc _ _ s s (raw N P s l) (raw N P s l) b p on y hL hM hE hR (fun M2 w1 hm hr => ref_no hr (rpk_ref hs hr b p p 7 y hp)) (fun w1 hl hm => done_no hl hm (ppok_no hl b p p 7 y hp))
   ·exact step4a N P S g2 g3 g4 g5 hs bq bc po pn pc _ _ s s (raw N P s l) (raw N P s l) b p x hx h7 on y hL hM hE hR (fun M2 w1 hm hr => ref_no hr (rpk_ref hs hr b p p x y hp)) (fun w1 hl hm => done_no hl hm (ppok_no hl b p p x y hp))
  | none =>
   obtain ⟨-, a1, a2, a3, a4, -⟩ := kno_none hp
   obtain ⟨b, rfl⟩ : ∃ n : Nat, b = n := ⟨b.toNat, by omega⟩
   obtain ⟨p, rfl⟩ : ∃ n : Nat, p = n := ⟨p.toNat, by omega⟩
   refine fin (kdo s b p p x) l (by simp [nxt, hp]) ?_
   by_cases h7 : x = 7
   ·subst h7
    exact step4b N P S g2 g3 g4 g5 hs bq bc po pn pc _ _ s (kdo s b p p 7) (raw N P s l) (raw N P (kdo s b p p 7) l) (b : Int) (p : Int) on 0 hL hM hE hR (fun M2 w1 hm hr => rpk_kdo hs hm hW hr b p p 7 hx hp) (fun w1 hl hm => ppok_do hl hm hW b p p 7 hx hp)
   ·exact step4a N P S g2 g3 g4 g5 hs bq bc po pn pc _ _ s (kdo s b p p x) (raw N P s l) (raw N P (kdo s b p p x) l) (b : Int) (p : Int) x hx h7 on 0 hL hM hE hR (fun M2 w1 hm hr => rpk_kdo hs hm hW hr b p p x hx hp) (fun w1 hl hm => ppok_do hl hm hW b p p x hx hp)
 by_cases k5 : k = 5
 ·subst k5
  refine fin (pwr s on) l (by simp [nxt]) ?_
  rw [← raw_pwr]
  have hR2 := ref_pwr hR on
  cases on with
  | true =>
   by_cases h7 : x = 7
   ·subst h7
    exact powtb N P S g2 g3 g4 g5 hs bq bc po pn pc _ _ _ (raw N P s l) b p hL hM hR2
   ·exact powta N P S g2 g3 g4 g5 hs bq bc po pn pc _ _ _ (raw N P s l) b p x hx h7 hL hM hR2
  | false =>
   by_cases h7 : x = 7
   ·subst h7
    exact powfb N P S g2 g3 g4 g5 hs bq bc po pn pc _ _ _ (raw N P s l) b p hL hM hR2
   ·exact powfa N P S g2 g3 g4 g5 hs bq bc po pn pc _ _ _ (raw N P s l) b p x hx h7 hL hM hR2
 ·refine fin s l (by simp [nxt, k1, k2, k3, k4, k5]) ?_
  cases ho : off s with
  | true =>
   rw [ho] at hR
   by_cases h7 : x = 7
   ·subst h7
    exact othtb N P S g2 g3 g4 g5 hs bq bc po pn pc _ s (raw N P s l) k ⟨k1, k2, k3, k4, k5⟩ b p on (by rw [raw_o, ho]; rfl) hL hM hR
   ·exact othta N P S g2 g3 g4 g5 hs bq bc po pn pc _ s (raw N P s l) k ⟨k1, k2, k3, k4, k5⟩ b p x hx h7 on (by rw [raw_o, ho]; rfl) hL hM hR
  | false =>
   rw [ho] at hR
   by_cases h7 : x = 7
   ·subst h7
    exact othfb N P S g2 g3 g4 g5 hs bq bc po pn pc _ s (raw N P s l) k ⟨k1, k2, k3, k4, k5⟩ b p on (by rw [raw_o, ho]; rfl) hL hM hR
   ·exact othfa N P S g2 g3 g4 g5 hs bq bc po pn pc _ s (raw N P s l) k ⟨k1, k2, k3, k4, k5⟩ b p x hx h7 on (by rw [raw_o, ho]; rfl) hL hM hR
end Go.Proofs.Ytikcohjhhoiakaa.na
namespace Go.Proofs.Ytikcohjhhoiakaa
open Go.ChangeShapes Go.WideShapes Go.ChangeAt Go.RowKit
set_option maxRecDepth 20000
theorem laidOut : laidOutB Try.prog = true := by kernel_rfl
theorem trodAll_below {H : Type} {enc : TypeId × Value → H} {W W' : World} (hb : Below W.heap.size W W') :
  ∀ (ts : List TypeId) (vs : List Value) (ds : List (DataW H)) (ps : List MemPlace), (∀ t ∈ ts, Try.prog.readableRec t = true ∧ t < Try.prog.types.size) → (∀ x ∈ ps, x.block < W.heap.size) →
   DataW.TrodAll enc Try.prog W 0 (fun _ => true) true ts vs ds ps → DataW.TrodAll enc Try.prog W' 0 (fun b => decide (b < W.heap.size)) true ts vs ds ps
 | [], [], [], _, _, _, h => h
 | t :: ts, v :: vs, d :: ds, ps, ht, hp, h => by
  obtain ⟨p, q, h1, h2, rfl⟩ := h
  have t1 := ht t (by simp)
  exact ⟨p, q, Below.trod laidOut t1.1 t1.2 h1 hb (fun x hx => hp x (by simp [hx])), trodAll_below hb ts vs ds q (fun t h => ht t (by simp [h])) (fun x hx => hp x (by simp [hx])) h2, rfl⟩
theorem post_law {H : Type} {enc : TypeId × Value → H} {s : ChangeSpec} {f : Func} {W W' : World} {args : Array Value} {ds gs : List (DataW H)} {before : List MemPlace}
  (hv : s.vars = []) (hr : f.resultTypes = #[4]) (hts : ∀ t ∈ f.params.toList, Try.prog.readableRec t = true ∧ t < Try.prog.types.size)
  (hres : (s.fn H (ds ++ gs)).results = [.lit (.bool true)]) (hargs : (s.fn H (ds ++ gs)).args = ds) (hvars : (s.fn H (ds ++ gs)).vars = [])
  (hW : DataW.Whole enc Try.prog f.params.toList s.vars false W args.toList ds gs before) (hb : Below W.heap.size W W') :
  s.post enc Try.prog f false true false false W args (.bool true) W' := by
 have hW' := hW
 have hlt := hW.lt
 obtain ⟨p, q, hA, hV, hpq, hfz, hnd⟩ := hW
 refine ⟨ds, gs, before, [], p, [], hW', ?_, ?_, ?_, hb.frame _, fun h => by cases h⟩
 ·rw [hres, hr]
  exact trodAll_mk1 (shut_bool Try.underlying4 _)
 ·rw [hargs]
  exact trodAll_below hb _ _ _ _ hts (fun x hx => by simpa using hlt x (by rw [hpq]; simp [hx])) hA
 ·rw [hvars, hv]; rfl
end Go.Proofs.Ytikcohjhhoiakaa
namespace Go.Proofs.Ytikcohjhhoiakaa.fa
open Go.ChangeShapes Go.WideShapes Go.ChangeAt Go.RowKit
set_option maxRecDepth 20000
theorem cells_int : Try.prog.cellsOf 3 = 1 := by kernel_rfl
theorem cells_bool : Try.prog.cellsOf 4 = 1 := by kernel_rfl
theorem cells_bytes : Try.prog.cellsOf 53 = 1 := by kernel_rfl
theorem cells_fault : Try.prog.cellsOf 67 = 3 := by kernel_rfl
theorem bytes_u8 : Try.prog.bytesOf 5 = 1 := by kernel_rfl
theorem weightsAll_mem {H : Type} {P : Program} {e : TypeId} {n : Nat} : ∀ {l : List (DataW H)} {d : DataW H}, d ∈ l → n ∈ d.weights P e → n ∈ DataW.weightsAll P e l
 | _ :: _, _, h, hn => by
  simp only [DataW.weightsAll, List.mem_append]
  rcases List.mem_cons.1 h with rfl | h
  ·exact Or.inl hn
  ·exact Or.inr (weightsAll_mem h hn)
set_option maxRecDepth 20000 in
theorem byt_cell {H : Type} {enc : TypeId × Value → H} {W : World} {fuel : Nat} {v : Value} {x : DataW H × List MemPlace} (hf : DataW.trod enc Try.prog W 0 (fun _ => true) true fuel 53 [v] = some x) :
  ∃ xs, Byt W v xs ∧ ((∀ n ∈ x.1.weights Try.prog 53, n ≤ reachBytes) → xs.length ≤ 140737488355328) := by
 rcases open_ints Try.underlying53 Try.underlying5 cells_u8 hf with ⟨hcs, hx⟩ | ⟨a, len, cap, zs, hcs, _, hl, hm, hz, hx, hcell, hwz⟩
 ·simp at hcs
  subst hcs
  exact ⟨[], Byt.nil W, fun _ => by simp⟩
 ·simp at hcs
  subst hcs
  simp at hz
  have hlen : (zs.take len).length = len := by simp; omega
  have hgb : ∀ t, t < len → gb (zs.take len) t = zs.getD t 0 := fun t ht => by simp [gb, List.getD, ht]
  refine ⟨zs.take len, ⟨some a, cap, by rw [hlen], by omega, by simpa [maxLen] using hm, allB_mem fun x hx => bounds_u8 (hwz x (List.mem_of_mem_take hx)), (by intro h; cases h), fun hp => ?_⟩, fun hw => ?_⟩
  ·obtain ⟨b, off, rfl, hc⟩ := ints_at hcell (by omega)
   refine ⟨b, off, rfl, fun t ht => ?_⟩
   rw [hgb t (by omega)]
   exact hc t (by omega)
  ·have := hw cap (by
    rw [hx]
    simp only [DataW.weights, Try.underlying53, bytes_u8]
    have : ((lits .u8 (zs.take len) : List (DataW H)).length + (lits .u8 (zs.drop len) : List (DataW H)).length) * 1 = cap := by
     simp [lits]; omega
    rw [this]
    exact List.mem_cons_self)
   simp only [reachBytes] at this
   omega
end Go.Proofs.Ytikcohjhhoiakaa.fa
namespace Go.Proofs.Ytikcohjhhoiakaa.ge
open Go.ChangeShapes Go.WideShapes Go.ChangeAt Go.RowKit
set_option maxRecDepth 20000
theorem cells_geo : Try.prog.cellsOf 23 = 6 := by kernel_rfl
theorem cells_place : Try.prog.cellsOf 43 = 2 := by kernel_rfl
theorem int_cell {H : Type} {enc : TypeId × Value → H} {W : World} {fuel : Nat} {c : Value} {x : DataW H × List MemPlace}
  (hf : DataW.trod enc Try.prog W 0 (fun _ => true) true fuel 3 [c] = some x) : ∃ n, c = .int .i64 n := by
 obtain ⟨y, hy, -⟩ := DataW.trod_int Try.underlying3 hf
 exact ⟨y, by simpa using hy⟩
end Go.Proofs.Ytikcohjhhoiakaa.ge
namespace Go.Proofs.Ytikcohjhhoiakaa.na
open Go.ChangeShapes Go.WideShapes Go.ChangeAt Go.RowKit Go.Proofs.Ytikcohjhhoiakaa.fa
set_option maxRecDepth 20000
set_option maxRecDepth 20000 in
theorem faults_cell {H : Type} {enc : TypeId × Value → H} {W : World} {fuel : Nat} {v : Value} {d : DataW H} {ps : List MemPlace} (hf : DataW.trod enc Try.prog W 0 (fun _ => true) true fuel 24 [v] = some (d, ps)) (hw : ∀ n ∈ d.weights Try.prog 24, n ≤ reachBytes) : ∃ fs ms, Fls W v fs ∧ Mks W fs ms := by
 rcases Go.Deep.open_slice Try.underlying24 hf with ⟨hcs, hx⟩ | ⟨a, len, cap, m, n, D, Pl, hcs, _, hl, hm, hmm, hx, hr⟩
 ·obtain rfl : v = .slice none 0 0 := by simpa using hcs
  exact ⟨[], fun _ => [], ⟨none, 0, rfl, by simp, by simp, fun _ => rfl, fun h => by simp at h⟩, fun t ht => by simp at ht⟩
 ·obtain rfl : v = .slice (some a) len cap := by simpa using hcs
  simp at hmm
  subst hmm
  have hd : d = _ := (Prod.mk.inj hx).1
  have each : ∀ i, i < len → ∃ q : (Int × Bool × Value) × List Int, (W.cell? (a.add (i * 3)) = some (.int .i64 q.1.1) ∧ W.cell? (a.add (i * 3 + 1)) = some (.bool q.1.2.1) ∧ W.cell? (a.add (i * 3 + 2)) = some q.1.2.2) ∧ Byt W q.1.2.2 q.2 ∧ q.2.length ≤ 140737488355328 := by
   intro i hi
   obtain ⟨cs', h1, h2⟩ := hr i (by omega)
   rw [cells_fault] at h1
   obtain ⟨_, hlen, hcell⟩ := World.cells?_some h1
   obtain ⟨xs, k, hk, hxy, _, hxl, hff⟩ := DataW.trod_struct Try.underlying67 h2
   match xs, hxl, cs', hlen with
   | [y0, y1, y2], _, [v0, v1, v2], _ =>
    have g0 := hff 0 _ rfl
    have g1 := hff 1 _ rfl
    have g2 := hff 2 _ rfl
    simp [cells_int, cells_bool, cells_bytes] at g0 g1 g2
    have e0 := hcell 0 (by omega)
    have e1 := hcell 1 (by omega)
    have e2 := hcell 2 (by omega)
    rw [Go.Deep.add_add] at e0 e1 e2
    obtain ⟨x, hx0, -⟩ := DataW.trod_int Try.underlying3 g0
    obtain ⟨c, hx1, -⟩ := DataW.trod_bool Try.underlying4 g1
    simp at hx0 hx1
    subst hx0
    subst hx1
    obtain ⟨zs, hz, hzb⟩ := byt_cell g2
    refine ⟨((x, c, v2), zs), ⟨by simpa using e0, by simpa using e1, by simpa using e2⟩, hz, hzb fun w' hw' => hw w' ?_⟩
    rw [hd]
    simp only [DataW.weights, Try.underlying24]
    refine List.mem_cons_of_mem _ (List.mem_append_left _ (weightsAll_mem (List.mem_map.2 ⟨i, List.mem_range.2 hi, rfl⟩) ?_))
    have hDi : D i = .agg [y0.1, y1.1, y2.1] := by
     have := (Prod.mk.inj hxy).1
     simpa using this
    rw [hDi]
    simp only [DataW.weights, Try.underlying67, List.map_cons, List.map_nil, DataW.weightsEach, List.append_nil]
    exact List.mem_append_right _ (List.mem_append_right _ hw')
  obtain ⟨q, hq⟩ := Go.Deep.choose_lt each
  have hlen : ((List.range len).map fun i => (q i).1).length = len := by simp
  have hgf : ∀ t, t < len → gf ((List.range len).map fun i => (q i).1) t = (q t).1 := fun t ht => by simp [gf, List.getD, ht]
  refine ⟨(List.range len).map fun i => (q i).1, fun i => (q i).2, ⟨some a, m, by rw [hlen], by omega, by simpa [maxLen] using hm, (by intro e; cases e), fun hp => ?_⟩, fun t ht => ?_⟩
  ·rw [hlen] at hp ⊢
   obtain ⟨b, off, spot⟩ := a
   have hspot : spot = none := by simpa [Addr.add] using World.cell?_spot (hq 0 hp).1.1
   subst hspot
   refine ⟨b, off, rfl, fun t ht => ?_⟩
   rw [hgf t ht]
   have := (hq t ht).1
   simp only [Addr.add_mid] at this
   exact ⟨this.1, this.2.1, this.2.2⟩
  ·rw [hlen] at ht
   rw [hgf t ht]
   exact (hq t ht).2
abbrev Stp : Type := Int × Int × Int × Int × Bool
def tc5 (t : Stp) : List Value := [.int .i64 t.1, .int .i64 t.2.1, .int .i64 t.2.2.1, .int .u8 t.2.2.2.1, .bool t.2.2.2.2]
def Stps (w : World) (v : Value) (ts : List Stp) : Prop := Rws w v 5 (ts.map tc5) ∧ ∀ t ∈ ts, 0 ≤ t.2.2.2.1 ∧ t.2.2.2.1 ≤ 255
theorem cells_step : Try.prog.cellsOf 45 = 5 := by kernel_rfl
theorem cells_case : Try.prog.cellsOf 27 = 8 := by kernel_rfl
theorem cells_steps : Try.prog.cellsOf 25 = 1 := by kernel_rfl
theorem cells_faults : Try.prog.cellsOf 24 = 1 := by kernel_rfl
set_option maxRecDepth 20000 in
theorem steps_cell {H : Type} {enc : TypeId × Value → H} {W : World} {fuel : Nat} {v : Value} {x : DataW H × List MemPlace} (hf : DataW.trod enc Try.prog W 0 (fun _ => true) true fuel 25 [v] = some x) : ∃ ts, Stps W v ts := by
 rcases Go.Deep.open_slice Try.underlying25 hf with ⟨hcs, hx⟩ | ⟨a, len, cap, m, n, D, Pl, hcs, _, hl, hm, hmm, hx, hr⟩
 ·obtain rfl : v = .slice none 0 0 := by simpa using hcs
  exact ⟨[], Rws.nil W 5, fun t ht => by simp at ht⟩
 ·obtain rfl : v = .slice (some a) len cap := by simpa using hcs
  simp at hmm
  subst hmm
  have each : ∀ i, i < len → ∃ q : Stp, (∀ j u, (tc5 q)[j]? = some u → W.cell? (a.add (i * 5 + j)) = some u) ∧ 0 ≤ q.2.2.2.1 ∧ q.2.2.2.1 ≤ 255 := by
   intro i hi
   obtain ⟨cs', h1, h2⟩ := hr i (by omega)
   rw [cells_step] at h1
   obtain ⟨_, hlen, hcell⟩ := World.cells?_some h1
   obtain ⟨xs, k, hk, hxy, _, hxl, hff⟩ := DataW.trod_struct Try.underlying45 h2
   match xs, hxl, cs', hlen with
   | [y0, y1, y2, y3], _, [v0, v1, v2, v3, v4], _ =>
    have g0 := hff 0 _ rfl
    have g1 := hff 1 _ rfl
    have g2 := hff 2 _ rfl
    have g3 := hff 3 _ rfl
    simp [cells_int, cells_bool, cells_u8, ge.cells_place] at g0 g1 g2 g3
    obtain ⟨ys, k', hk', hyy, _, hyl, hgg⟩ := DataW.trod_struct Try.underlying43 g1
    match ys, hyl with
    | [z0, z1], _ =>
     have p0 := hgg 0 _ rfl
     have p1 := hgg 1 _ rfl
     simp [cells_int] at p0 p1
     obtain ⟨x0, hx0, -⟩ := DataW.trod_int Try.underlying3 g0
     obtain ⟨x1, hx1, -⟩ := DataW.trod_int Try.underlying3 p0
     obtain ⟨x2, hx2, -⟩ := DataW.trod_int Try.underlying3 p1
     obtain ⟨x3, hx3, -, hw3⟩ := DataW.trod_int Try.underlying5 g2
     obtain ⟨x4, hx4, -⟩ := DataW.trod_bool Try.underlying4 g3
     simp at hx0 hx1 hx2 hx3 hx4
     subst hx0 hx1 hx2 hx3 hx4
     have e0 := hcell 0 (by omega)
     have e1 := hcell 1 (by omega)
     have e2 := hcell 2 (by omega)
     have e3 := hcell 3 (by omega)
     have e4 := hcell 4 (by omega)
     rw [Go.Deep.add_add] at e0 e1 e2 e3 e4
     refine ⟨(x0, x1, x2, x3, x4), fun j u hj => ?_, bounds_u8 hw3⟩
     match j, hj with
     | 0, hj => simp [tc5] at hj; subst hj; simpa using e0
     | 1, hj => simp [tc5] at hj; subst hj; simpa using e1
     | 2, hj => simp [tc5] at hj; subst hj; simpa using e2
     | 3, hj => simp [tc5] at hj; subst hj; simpa using e3
     | 4, hj => simp [tc5] at hj; subst hj; simpa using e4
  obtain ⟨q, hq⟩ := Go.Deep.choose_lt each
  have hel : ∀ t, t < len → el (((List.range len).map q).map tc5) t = tc5 (q t) := fun t ht => by simp [el, List.getD, ht]
  refine ⟨(List.range len).map q, ⟨some a, m, by simp, by simp; omega, by simpa [maxLen] using hm, (by intro e; cases e), fun t ht => ?_, fun hp => ?_⟩, fun t ht => ?_⟩
  ·simp at ht
   rw [hel t ht]
   rfl
  ·simp at hp
   obtain ⟨b, off, spot⟩ := a
   have hspot : spot = none := by simpa [Addr.add] using World.cell?_spot ((hq 0 hp).1 0 _ rfl)
   subst hspot
   refine ⟨b, off, rfl, fun t ht => ?_⟩
   simp at ht
   rw [hel t ht]
   intro j u hu
   have := (hq t ht).1 j u hu
   simp only [Addr.add_mid] at this
   rw [Nat.add_assoc]
   exact this
  ·obtain ⟨i, hi, rfl⟩ := List.mem_map.1 ht
   exact (hq i (List.mem_range.1 hi)).2
set_option maxRecDepth 20000 in
theorem case_open {H : Type} {enc : TypeId × Value → H} {W : World} {base : Nat} {v : Value} {d : DataW H} {ps : List MemPlace}
  (ok : Value.okWide Try.prog W .any base 27 v) (h : DataW.Trod enc Try.prog W 0 (fun _ => true) true 27 v d ps) (hw : ∀ n ∈ d.weights Try.prog 27, n ≤ reachBytes) : ∃ g pv sv fs ms ts, v = .agg ((g : List Int).map (Value.int .i64) ++ [pv, sv]).toArray ∧ g.length = 6 ∧ Fls W pv fs ∧ Mks W fs ms ∧ Stps W sv ts := by
 simp only [Value.okWide, Try.underlying27] at ok
 obtain ⟨cs, rfl, h2, _⟩ := ok
 rw [cells_case] at h2
 obtain ⟨l⟩ := cs
 obtain ⟨c0, c1, c2, c3, c4, c5, c6, c7, rfl⟩ : ∃ c0 c1 c2 c3 c4 c5 c6 c7, l = [c0, c1, c2, c3, c4, c5, c6, c7] := by
  match l, h2 with
  | [c0, c1, c2, c3, c4, c5, c6, c7], _ => exact ⟨c0, c1, c2, c3, c4, c5, c6, c7, rfl⟩
 obtain ⟨fuel, hf⟩ := h
 obtain ⟨xs, n, -, hxy, -, hlen, hall⟩ := DataW.trod_struct Try.underlying27 hf
 match xs, hlen with
 | [y0, y1, y2], _ =>
  have a0 := hall 0 _ rfl
  have a1 := hall 1 _ rfl
  have a2 := hall 2 _ rfl
  simp [ge.cells_geo, cells_faults, cells_steps, Value.cells] at a0 a1 a2
  obtain ⟨xs', n', -, -, -, hlen', hall'⟩ := DataW.trod_struct Try.underlying23 a0
  match xs', hlen' with
  | [z0, z1, z2, z3, z4, z5], _ =>
   have b0 := hall' 0 _ rfl
   have b1 := hall' 1 _ rfl
   have b2 := hall' 2 _ rfl
   have b3 := hall' 3 _ rfl
   have b4 := hall' 4 _ rfl
   have b5 := hall' 5 _ rfl
   simp [cells_int] at b0 b1 b2 b3 b4 b5
   obtain ⟨n0, rfl⟩ := ge.int_cell b0
   obtain ⟨n1, rfl⟩ := ge.int_cell b1
   obtain ⟨n2, rfl⟩ := ge.int_cell b2
   obtain ⟨n3, rfl⟩ := ge.int_cell b3
   obtain ⟨n4, rfl⟩ := ge.int_cell b4
   obtain ⟨n5, rfl⟩ := ge.int_cell b5
   obtain ⟨ts, hts⟩ := steps_cell a2
   have hd : d = .agg [y0.1, y1.1, y2.1] := by
    have := (Prod.mk.inj hxy).1
    simpa using this
   obtain ⟨fs, ms, q1, q2⟩ := faults_cell (d := y1.1) (ps := y1.2) a1 fun w' hw' => hw w' (by
    rw [hd]
    simp only [DataW.weights, Try.underlying27, List.map_cons, List.map_nil, DataW.weightsEach, List.append_nil]
    exact List.mem_append_right _ (List.mem_append_left _ hw'))
   exact ⟨[n0, n1, n2, n3, n4, n5], c6, c7, fs, ms, ts, rfl, rfl, q1, q2, hts⟩
end Go.Proofs.Ytikcohjhhoiakaa.na
namespace Go.Proofs.Ytikcohjhhoiakaa.na
open Go.RowKit Go.Proofs.Ytikcohjhhoiakaa.fa
set_option maxRecDepth 20000
def one (g : Nat) : Nat → Bool := fun k => decide (k = g)
theorem raw_new (N P S : Nat) : raw N P (new S) [] = raw0 N P S := by
 have h1 : ∀ n, jnd n (fun _ => List.replicate S (255 : Int)) = List.replicate (n * S) 255 := fun n => by
  induction n with
  | zero => simp [jnd]
  | succ n ih => rw [jnd_succ, ih, Nat.succ_mul, ← List.replicate_append_replicate]
 have h2 : ∀ n, ((List.range n).flatMap fun _ => List.replicate (P * S) (255 : Int)) = List.replicate (n * (P * S)) 255 := fun n => by
  induction n with
  | zero => simp
  | succ n ih => rw [List.range_succ, List.flatMap_append, ih, Nat.succ_mul, ← List.replicate_append_replicate]; simp
 have h3 : img N P (new S) = List.replicate (N * (P * S)) 255 := by
  show ((List.range N).flatMap fun _ => jnd P (fun _ => List.replicate S (255 : Int))) = _
  rw [h1 P, h2 N]
 have h4 : (List.range P).map (fun _ => (0 : Int)) = List.replicate P 0 := by
  rw [List.map_const']
  simp
 unfold raw raw0
 rw [h3]
 show mkX _ (fun b => (List.range P).map (fun _ => (0 : Int))) _ _ _ _ = _
 rw [h4]
 rfl
theorem below_hidG {M : Nat → Bool} {w w' : World} (h : Below w.heap.size w w') (hM : ∀ k, M k = true → w.heap.size ≤ k) : Below w.heap.size w (hid M w') :=
 ⟨h.os, h.tape, h.output, by rw [hid_size]; exact h.size, fun k hk => by
  rw [hid_at]
  ·exact h.block k hk
  ·cases q : M k with
   | false => rfl
   | true => have := hM k q; omega⟩
theorem pla_of {w : World} {v : Value} {fs : List (Int × Bool × Value)} {ms : Nat → List Int} (h : Fls w v fs) (hm : Mks w fs ms) (hl : fs.length ≤ 64) (hk : Okp fs ms fs.length) : Pla w v (plnOf fs ms) := ⟨fs, ms, h, hm, hl, hk, plnOf_is fs ms⟩
section
variable {M E : Nat → Bool} {w w' : World} {c r d : Nat} {q : Nat → Nat} {pv tv : Value} {g : List Int} {N P S : Nat} {pl : Pln} {s : St} {l : List Opn} {v : Value}
theorem Sim.below (h : Sim M E w c r d q pv g N P S pl s l v) (hb : Below w.heap.size w w') : Sim M E w' c r d q pv g N P S pl s l v := by
 obtain ⟨tv, h1, h2, h3, h4⟩ := h
 exact ⟨tv, h1.below hb, h2.below (below_hid hb), fun k hk => Nat.lt_of_lt_of_le (h3 k hk) hb.size, h4.below (below_hid hb)⟩
theorem sim_new {w1 w2 : World} {fs : List (Int × Bool × Value)} {ms : Nat → List Int} {va : Value} {bv : Value} (hL : Lay M w1 c r d q pv tv g N P S (plnOf fs ms) (raw0 N P S)) (hM : Mlt M w1) (hG : ∀ k, M k = true → w.heap.size ≤ k) (hB : Below w.heap.size w w1) (hf : Fls w va fs) (hm : Mks w fs ms) (hl : fs.length ≤ 64) (hk : Okp fs ms fs.length) (gW : Nat) (hW : w2.heap.size ≤ gW)
  (hR : ∃ gv uv : Nat → Value, OwR w1.heap.size w2 bv 50 5 (bks N gv uv (fun _ => (-1 : Int)) (fun _ => false) (fun _ => (0 : Int))) ∧ ∀ b, b < N → BlkO w1.heap.size w2 (gv b) (uv b) P (fun _ => List.replicate S 255) (fun _ => 0)) (hB2 : Below w1.heap.size w1 w2) :
  Sim M (one gW) w2 c r d q pv g N P S (plnOf fs ms) (new S) [] (.agg (chr g bv va false 0).toArray) := by
 have hu : ∀ k, k < w2.heap.size → uni M (one gW) k = M k := fun k hk => by
  have : k ≠ gW := by omega
  simp [uni, one, this]
 have F : Frm M w2 w2 := Frm.refl _ _
 refine ⟨tv, by rw [raw_new]; exact hL.below hB2, ?_, fun k hk => Nat.lt_of_lt_of_le (hM k hk) hB2.size, ?_⟩
 ·refine Ref.below ?_ (F.hid hu)
  obtain ⟨gv, uv, r1, r2⟩ := hR
  refine ⟨bv, va, gv, uv, rfl, owr_hid r1 hM, fun b hb => (r2 b hb).hid hM (fun p _ => allB_replicate 255 S (by omega)), ?_⟩
  have := (pla_of hf hm hl hk).below (below_hidG hB hG)
  exact this.below (below_hid hB2)
 ·exact ((hL.2.2.2.2.2.2.2.2.1).below (below_hid hB2)).below (F.hid hu)
end
theorem shp_awake : Shp [((7 : Nat) : Int), ((10 : Nat) : Int), 64, 0, 1, 1] 7 10 152 := by
 refine ⟨rfl, ⟨⟨by decide, by decide, by decide, by decide, by decide, by decide⟩, by decide, by decide, by decide⟩, rfl, rfl, rfl⟩
theorem cut_laid (xs ys : List Int) (k sz : Nat) (hl : k * sz + sz ≤ xs.length) (hy : ys.length = sz) : cut sz (laid xs (k * sz) ys) k = ys := by
 have h1 : (laid xs (k * sz) ys).length = xs.length := laid_len xs (k * sz) ys (by omega)
 have h2 : (cut sz (laid xs (k * sz) ys) k).length = sz := by simp [cut, h1]; omega
 refine ext_gb (by rw [h2, hy]) fun t ht => ?_
 rw [h2] at ht
 rw [cut_gb sz _ k t ht, gb_laid xs (k * sz) ys (by omega), if_neg (by omega), if_pos (by omega), show k * sz + t - k * sz = t by omega]
theorem awake_page : (cut 152 (xi (mkX (laid (xi (raw0 7 10 152)) ((1 * 10 + 2) * 152) (pgm 152 none (cut 152 (xi (raw0 7 10 152)) (1 * 10 + 2)) (List.replicate 152 0))) (at1 (xp (raw0 7 10 152)) 1 ((xp (raw0 7 10 152) 1).set 2 (gb (xp (raw0 7 10 152) 1) 2 + 1))) (xe (raw0 7 10 152)) (xs (raw0 7 10 152)) (!crs none) (xt (raw0 7 10 152) ++ [opn 1 (1 : Nat) (2 : Nat) (List.replicate 152 0) (ans none)]))) (1 * 10 + 2)).length = 152 ∧ gb (cut 152 (xi (mkX (laid (xi (raw0 7 10 152)) ((1 * 10 + 2) * 152) (pgm 152 none (cut 152 (xi (raw0 7 10 152)) (1 * 10 + 2)) (List.replicate 152 0))) (at1 (xp (raw0 7 10 152)) 1 ((xp (raw0 7 10 152) 1).set 2 (gb (xp (raw0 7 10 152) 1) 2 + 1))) (xe (raw0 7 10 152)) (xs (raw0 7 10 152)) (!crs none) (xt (raw0 7 10 152) ++ [opn 1 (1 : Nat) (2 : Nat) (List.replicate 152 0) (ans none)]))) (1 * 10 + 2)) 0 = 0 := by
 show (cut 152 (laid (List.replicate (7 * (10 * 152)) 255) ((1 * 10 + 2) * 152) (andl (cut 152 (List.replicate (7 * (10 * 152)) 255) (1 * 10 + 2)) (List.replicate 152 0))) (1 * 10 + 2)).length = 152 ∧ gb (cut 152 (laid (List.replicate (7 * (10 * 152)) 255) ((1 * 10 + 2) * 152) (andl (cut 152 (List.replicate (7 * (10 * 152)) 255) (1 * 10 + 2)) (List.replicate 152 0))) (1 * 10 + 2)) 0 = 0
 have h1 : (cut 152 (List.replicate (7 * (10 * 152)) (255 : Int)) (1 * 10 + 2)).length = 152 := by rw [cut_len 152 _ 70 12 (by rw [List.length_replicate]) (by omega)]
 have h2 : (andl (cut 152 (List.replicate (7 * (10 * 152)) (255 : Int)) (1 * 10 + 2)) (List.replicate 152 0)).length = 152 := by rw [andl_len]; exact h1
 rw [cut_laid _ _ _ _ (by rw [List.length_replicate]; omega) h2]
 refine ⟨h2, ?_⟩
 rw [andl_gb _ _ 0 (by rw [h1]; omega), gb_rep 152 0 0 (by omega)]
 show ((_ &&& 0 : Nat) : Int) = 0
 rw [Nat.and_zero]; rfl
theorem bhd_zero (P p : Nat) : ¬ Bhd (List.replicate P 0) p := fun ⟨i, _, h2, h3⟩ => by
 rw [List.length_replicate] at h2
 rw [gb_rep P i 0 h2] at h3
 omega
theorem Lay.tvf {M : Nat → Bool} {w : World} {c r d : Nat} {q : Nat → Nat} {pv tv : Value} {g : List Int} {N P S : Nat} {pl : Pln} {X : Raw} (h : Lay M w c r d q pv tv g N P S pl X) : ∃ tq tc, tv = .slice tq (xt X).length tc := by
 obtain ⟨dvs, tO, -, -⟩ := h.2.2.2.2.2.2.2.1
 obtain ⟨tq, tc, e⟩ := tO.rws.form
 rw [opcs_len] at e
 exact ⟨tq, tc, e⟩
theorem awake_any (w : World) : Calls Try.prog 11 #[] w fun e w' => e = .returned (.bool true) ∧ Below w.heap.size w w' := by
 have SN : Hid (∀ w, Calls Try.prog 8 #[.agg #[.int .i64 7, .int .i64 10, .int .i64 64, .int .i64 0, .int .i64 1, .int .i64 1], .slice none 0 0] w (Made w [((7 : Nat) : Int), ((10 : Nat) : Int), 64, 0, 1, 1] 7 10 152 (plnOf [] fun _ => []))) := fun w => by
  exact new_yes 64 0 1 1 7 10 152 shp_awake (.slice none 0 0) [] (fun _ => []) w ⟨none, 0, rfl, by simp, by simp, fun _ => rfl, fun h => by simp at h⟩ (fun t ht => by simp at ht) (by simp) (fun t ht => by simp at ht)
 have hp0 : plnOf [] (fun _ => []) = fun _ => none := rfl
 rw [hp0] at SN
 have HAP : Hid _ := awake_page
 have t0 := tR
 go_enter Try.func11, Try.ntmps11
 go_wp2_with (first
  | (have q5 := t5; go_at_call 16; refine (ops_any c tq3 1 tc3 _ HT4.out).mono ?_; rintro e w5 ⟨rfl, hw⟩; obtain rfl := hw.symm; clear t5)
  | (have q4 := t4; go_at_call 22; refine (SR.out).mono ?_; rintro e w4 ⟨v4, rfl, ⟨L4, y4, z1, z2⟩, B4⟩; obtain ⟨ao4, c4, rfl, n1, n2, n3, n4, n5⟩ := y4
     obtain ⟨b4, o4, rfl, n6⟩ := n5 (by omega)
     have f4 := n6 0 (by omega)
     rw [z2, Nat.add_zero] at f4
     rw [z1] at n1 ⊢
     have HT4 : Hid (w4.cell? ⟨c, 10, none⟩ = some (.slice tq3 1 tc3)) := (HL3.out.below B4).cells.2.2.2.2
     have BB4 := bT BB3 B4
     clear B4 n2 n3 n4 n5 n6 z1 z2 t4; have t5 := tR)
  | (have q3 := t3; go_at_call 29; refine (SPG.out).mono ?_; rintro e w3 ⟨M3, tv3, rfl, L3, S3, F3, T3⟩
     obtain ⟨tq3, tc3, rfl⟩ : ∃ tq tc, tv3 = .slice tq 1 tc := L3.tvf
     have HL3 := hdH (L3)
     have SR : Hid (Calls Try.prog 22 #[.pointer (some ⟨c, 0, none⟩), .agg #[.int .i64 1, .int .i64 2]] w3 fun e w' => ∃ v, e = .returned (.tuple #[v, .int .i64 0]) ∧ (∃ L, Byt w' v L ∧ L.length = 152 ∧ gb L 0 = 0) ∧ Below w3.heap.size w3 w') := (read_yes HL3.out [1, 2] rfl rfl 1 2 rfl rfl (by omega) (by omega)).mono fun e w' ⟨v, h1, h2, h3⟩ => ⟨v, h1, ⟨_, h2.1, HAP.out⟩, h3⟩
     have BB3 := hdH (BB.out.trans (F3.below BB.out.size HG.out))
     clear L3 S3 F3 T3 t3; have t4 := tR)
  | (have q2 := t2; at_make; refine make_law _ rfl _ _ rfl w1.heap.size (Nat.le_refl _) _ 152 rfl rfl rfl (by omega) ?_; intro w2 hown hb2 hl2
     have HL := hdH (HL.out.below hb2)
     have SPG : Hid (Calls Try.prog 29 #[.pointer (some ⟨c, 0, none⟩), .agg #[.int .i64 1, .int .i64 2], .slice (some ⟨w1.heap.size, 0, none⟩) 152 152] w2 _) := program_do HL.out (fun k hk => Nat.lt_of_lt_of_le (HM.out k hk) hb2.size) _ (List.replicate 152 0) (own_hid hown.2.2 (allB_replicate 0 152 (by omega)) HM.out) rfl 1 2 (by omega) (by omega) List.length_replicate rfl (by decide) (fun q => bhd_zero 10 2 q.2) (by decide)
     have BB := bT BB hb2
     clear hown hb2 hl2 t2; have t3 := tR)
  | (have q1 := t0; go_at_call 8; refine (SN.out _).mono ?_; rintro e w1 ⟨M, c, r, d, q, pv, tv, rfl, L1, M1, G1, B1⟩
     have HL := hdH (L1)
     have HM := hdH (M1)
     have HG := hdH (G1)
     have BB := hdH (B1)
     clear L1 M1 G1 B1 t0; have t2 := tR))
 go_ret
 exact ⟨rfl, BB4.out⟩
theorem light_any (g0 g1 g2 g3 g4 g5 : Int) (w : World) (t : Bool) (ht : t = decide (g0 ≤ 16 ∧ g1 ≤ 20 ∧ g2 ≤ 128)) :
  Calls Try.prog 12 #[.agg (ints .i64 [g0, g1, g2, g3, g4, g5])] w fun e w' => e = .returned (.bool t) ∧ Below w.heap.size w w' := by
 have HT := hdH (ht)
 clear ht
 have t0 := tR
 by_cases h0 : g0 ≤ 16
 ·by_cases h1 : g1 ≤ 20
  ·by_cases h2 : g2 ≤ 128
   ·have e : t = true := by rw [HT.out]; simp [h0, h1, h2]
    subst e
    go_enter Try.func12, Try.ntmps12
    go_wp2_with (first
     | (have q0 := t0; refine box_lawF _ rfl (.tmp 0) 23 rfl .i64 [g0, g1, g2, g3, g4, g5] rfl ?_; intro w1 X1 B1 l1; have r0 := X1.cell0 0 (by simp); have r1 := X1.cell0 1 (by simp); have r2 := X1.cell0 2 (by simp); have BB := hdH (B1); simp only [gb, List.getD, List.getElem?_cons_zero, List.getElem?_cons_succ, Option.getD_some] at r0 r1 r2; clear X1 B1 l1 t0))
    go_ret
    exact ⟨rfl, BB.out⟩
   ·have e : t = false := by rw [HT.out]; simp [h2]
    subst e
    go_enter Try.func12, Try.ntmps12
    go_wp2_with (first
     | (have q0 := t0; refine box_lawF _ rfl (.tmp 0) 23 rfl .i64 [g0, g1, g2, g3, g4, g5] rfl ?_; intro w1 X1 B1 l1; have r0 := X1.cell0 0 (by simp); have r1 := X1.cell0 1 (by simp); have r2 := X1.cell0 2 (by simp); have BB := hdH (B1); simp only [gb, List.getD, List.getElem?_cons_zero, List.getElem?_cons_succ, Option.getD_some] at r0 r1 r2; clear X1 B1 l1 t0))
    go_ret
    exact ⟨rfl, BB.out⟩
  ·have e : t = false := by rw [HT.out]; simp [h1]
   subst e
   go_enter Try.func12, Try.ntmps12
   go_wp2_with (first
    | (have q0 := t0; refine box_lawF _ rfl (.tmp 0) 23 rfl .i64 [g0, g1, g2, g3, g4, g5] rfl ?_; intro w1 X1 B1 l1; have r0 := X1.cell0 0 (by simp); have r1 := X1.cell0 1 (by simp); have r2 := X1.cell0 2 (by simp); have BB := hdH (B1); simp only [gb, List.getD, List.getElem?_cons_zero, List.getElem?_cons_succ, Option.getD_some] at r0 r1 r2; clear X1 B1 l1 t0))
   go_ret
   exact ⟨rfl, BB.out⟩
 ·have e : t = false := by rw [HT.out]; simp [h0]
  subst e
  go_enter Try.func12, Try.ntmps12
  go_wp2_with (first
   | (have q0 := t0; refine box_lawF _ rfl (.tmp 0) 23 rfl .i64 [g0, g1, g2, g3, g4, g5] rfl ?_; intro w1 X1 B1 l1; have r0 := X1.cell0 0 (by simp); have r1 := X1.cell0 1 (by simp); have r2 := X1.cell0 2 (by simp); have BB := hdH (B1); simp only [gb, List.getD, List.getElem?_cons_zero, List.getElem?_cons_succ, Option.getD_some] at r0 r1 r2; clear X1 B1 l1 t0))
  go_ret
  exact ⟨rfl, BB.out⟩
def NoB (w : World) (g : Nat) : Prop := ∀ j y, w.cell? ⟨g, j, none⟩ ≠ some (.int .u8 y)
theorem NoB.heap {w w' : World} {g : Nat} (h : NoB w g) (e : w'.heap[g]? = w.heap[g]?) : NoB w' g := fun j y => by
 rw [World.cell?_of_block (w := w) (w' := w') (a := ⟨g, j, none⟩) e]
 exact h j y
theorem NoB.set {w : World} {g : Nat} {cs0 cs : List Value} (h : NoB w g) (hV : Vr w g cs0) (hl : cs0.length = cs.length) (hc : ∀ v ∈ cs, ∀ y, v ≠ .int .u8 y) : NoB (w.setCells g 0 cs) g := fun j y e => by
 by_cases hj : j < cs.length
 ·have := World.cell?_setCells_in g cs 0 w (fun i hi => by rw [Nat.zero_add]; exact hV.there1 i (by omega)) j hj
  rw [Nat.zero_add] at this
  rw [this] at e
  exact hc _ (List.getElem_mem hj) y (Option.some.inj e)
 ·rw [World.cell?_setCells_out g cs 0 w ⟨g, j, none⟩ (fun _ _ => Or.inr (by simp; omega))] at e
  exact h j y e
theorem chr_nobyte {g : List Int} {bq po : Option Addr} {bn bc pn pc : Nat} {o : Bool} {n : Int} : ∀ v ∈ chr g (.slice bq bn bc) (.slice po pn pc) o n, ∀ y, v ≠ .int .u8 y := by
 intro v hv y e
 subst e
 simp [chr] at hv
theorem Sim.putN {M : Nat → Bool} {w w' : World} {c r d : Nat} {q : Nat → Nat} {pv : Value} {g : List Int} {N P S : Nat} {pl : Pln} {s : St} {l : List Opn} {v : Value} {gW : Nat} (h : Sim M (one gW) w c r d q pv g N P S pl s l v) (hT : NoB w gW) (hM : M gW = false) (hg : w.grownBy w' (some gW)) : Sim M (one gW) w' c r d q pv g N P S pl s l v := by
 obtain ⟨tv, h1, h2, h3, h4⟩ := h
 have F : Frm (uni M (one gW)) w w' := Frm.grown hg (fun k e => by injection e with e; subst e; simp [uni, one])
 exact ⟨tv, h1.put hg hM hT (pla_less (h4.below F.hid0) fun k hk => by simp [uni, hk]), h2.below F.hid0, fun k hk => Nat.lt_of_lt_of_le (h3 k hk) hg.size, h4.below F.hid0⟩
theorem shp_of {g0 g1 g2 g3 g4 g5 : Int} (h : ge.Rt [g0, g1, g2, g3, g4, g5]) : ∃ N P S : Nat, g0 = N ∧ g1 = P ∧ Shp [(N : Int), P, g2, g3, g4, g5] N P S := by
 have h' := h
 obtain ⟨⟨a0, a1, a2, -⟩, -⟩ := h
 simp only [gb, List.getD, List.getElem?_cons_zero, List.getElem?_cons_succ, Option.getD_some] at a0 a1 a2
 obtain ⟨N, rfl⟩ : ∃ n : Nat, g0 = n := ⟨g0.toNat, by omega⟩
 obtain ⟨P, rfl⟩ : ∃ n : Nat, g1 = n := ⟨g1.toNat, by omega⟩
 exact ⟨N, P, (g2 + 88).toNat, rfl, rfl, rfl, h', rfl, rfl, by show g2 + 88 = _; omega⟩
end Go.Proofs.Ytikcohjhhoiakaa.na
