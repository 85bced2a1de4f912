/- Several texts in one. -/
import Derived.Test.YtnaihncmichfaaaMpB
import Derived.Test.YtnaihncmichfaaaEyE
/- Layer 6 by plain functions: trees that are grown, their texts and tokens. No program stands in here. -/
namespace Go.Proofs.Ytnaihncmichfaaa
open Go.RowKit
set_option maxHeartbeats 1000000
set_option maxRecDepth 10000
set_option linter.unusedVariables false
set_option linter.unusedSimpArgs false

inductive GT where
  | z
  | bin (o : Nat) (a b : GT)
  | un (o : Nat) (a : GT)
  | num (n : Nat)
  | idx (a : GT)
  | call (a b : GT)
  | set (a b : GT)
  | str
def unB (o : Nat) : List UInt8 := ([[43], [45], [78, 79, 84]] : List (List UInt8)).getD o []
def GT.ok : GT → Prop
  | .z => True
  | .bin o a b => o < 15 ∧ a.ok ∧ b.ok
  | .un o a => o < 3 ∧ a.ok
  | .num n => n ≤ 65535
  | .idx a => a.ok
  | .call a b => a.ok ∧ b.ok
  | .set a b => a.ok ∧ b.ok
  | .str => True
def GT.tx : GT → List UInt8
  | .z => [122]
  | .bin o a b => 40 :: (a.tx ++ 32 :: (opB o ++ 32 :: (b.tx ++ [41])))
  | .un o a => 40 :: (unB o ++ 32 :: (a.tx ++ [41]))
  | .num n => Lib.decDigits n
  | .idx a => 118 :: 91 :: (a.tx ++ [93, 94, 46, 102])
  | .call a b => 103 :: 40 :: (a.tx ++ 44 :: 32 :: (b.tx ++ [41]))
  | .set a b => 83 :: 123 :: (a.tx ++ 32 :: 46 :: 46 :: 32 :: (b.tx ++ [125]))
  | .str => [39, 113, 39]
def opT (o : Nat) : T0 := ⟨if o = 2 ∨ o = 3 ∨ o = 4 ∨ o = 7 ∨ o = 14 then 6 else 5, opB o, 0⟩
def unT (o : Nat) : T0 := ⟨if o = 2 then 6 else 5, unB o, 0⟩
def sy (x : List UInt8) : T0 := ⟨5, x, 0⟩
def nmT (c : UInt8) : T0 := ⟨1, [c], 0⟩
def GT.tok : GT → List T0
  | .z => [nmT 122]
  | .bin o a b => tOpen :: (a.tok ++ opT o :: (b.tok ++ [tClose]))
  | .un o a => tOpen :: unT o :: (a.tok ++ [tClose])
  | .num n => [⟨2, [], n⟩]
  | .idx a => nmT 118 :: sy [91] :: (a.tok ++ [sy [93], sy [94], sy [46], nmT 102])
  | .call a b => nmT 103 :: tOpen :: (a.tok ++ sy [44] :: (b.tok ++ [tClose]))
  | .set a b => nmT 83 :: sy [123] :: (a.tok ++ sy [46, 46] :: (b.tok ++ [sy [125]]))
  | .str => [⟨4, [113], 0⟩]
/-- The tokens without places, and the error. -/
def sT (s : List UInt8) : List T0 × Int := ((scanS 0 s).1.map (·.1), (scanS 0 s).2.2)
theorem sT_tok (s : List UInt8) (hs : s ≠ []) (t : T0) (n : Nat) (h : stp s = (some t, n, 0)) : sT s = (t :: (sT (s.drop n)).1, (sT (s.drop n)).2) := by
  unfold sT
  rw [scanS_tok 0 s hs t n 0 h]
  obtain ⟨o1, o2⟩ := scan_off _ (s.drop n) (0 + n) 0 (Nat.le_refl _)
  show (t :: List.map (·.1) (scanS (0 + n) (s.drop n)).1, (scanS (0 + n) (s.drop n)).2.2) = _
  rw [o1, o2]
theorem sT_skip (s : List UInt8) (hs : s ≠ []) (n : Nat) (h : stp s = (none, n, 0)) : sT s = sT (s.drop n) := by
  unfold sT
  rw [scanS_skip 0 s hs n h]
  obtain ⟨o1, o2⟩ := scan_off _ (s.drop n) (0 + n) 0 (Nat.le_refl _)
  rw [o1, o2]
/-- What may stand behind a tree's text. -/
def folL (r : List UInt8) : Prop := r = [] ∨ ∃ c x, r = c :: x ∧ folB c = true
theorem stp_end {u : List UInt8} (hu : u ≠ []) {t : T0} {n : Nat} (h : stp u = (some t, n, 0)) {r : List UInt8} (hr : folL r) : stp (u ++ r) = (some t, n, 0) := by
  rcases hr with rfl | ⟨c, x, rfl, hc⟩
  · rw [List.append_nil]; exact h
  · exact stp_fol u x hc hu _ n h
/-- One token at the end of a text. -/
theorem sT_end {u : List UInt8} (hu : u ≠ []) {t : T0} (h : stp u = (some t, u.length, 0)) {r : List UInt8} (hr : folL r) : sT (u ++ r) = (t :: (sT r).1, (sT r).2) := by
  rw [sT_tok _ (by intro e; exact hu (List.append_eq_nil_iff.1 e).1) t u.length (stp_end hu h hr), List.drop_left]
theorem sT_cons {c : UInt8} {r : List UInt8} {t : T0} (h : stp (c :: r) = (some t, 1, 0)) : sT (c :: r) = (t :: (sT r).1, (sT r).2) := sT_tok _ (by simp) t 1 h
theorem sT_space (r : List UInt8) : sT (32 :: r) = sT r := sT_skip _ (by simp) 1 (stp_space r)
theorem op_step (o : Nat) (ho : o < 15) (r : List UInt8) : stp (opB o ++ 32 :: r) = (some (opT o), (opB o).length, 0) := by
  match o, ho with
  | 0, _ => rfl
  | 1, _ => rfl
  | 2, _ => rfl
  | 3, _ => rfl
  | 4, _ => rfl
  | 5, _ => rfl
  | 6, _ => rfl
  | 7, _ => rfl
  | 8, _ => rfl
  | 9, _ => rfl
  | 10, _ => rfl
  | 11, _ => rfl
  | 12, _ => rfl
  | 13, _ => rfl
  | 14, _ => rfl
  | n + 15, h => omega
theorem un_step (o : Nat) (ho : o < 3) (r : List UInt8) : stp (unB o ++ 32 :: r) = (some (unT o), (unB o).length, 0) := by
  match o, ho with
  | 0, _ => rfl
  | 1, _ => rfl
  | 2, _ => rfl
  | n + 3, h => omega
theorem op_ne (o : Nat) (ho : o < 15) (r : List UInt8) : opB o ++ 32 :: r ≠ [] := by simp
theorem stp_sym1 (c : UInt8) (hc : c = 91 ∨ c = 123) (r : List UInt8) : stp (c :: r) = (some (sy [c]), 1, 0) := by
  have hs : symb (c :: r) = 1 := by
    unfold symb
    rcases hc with rfl | rfl
    · rw [if_neg]
      · rfl
      · cases r <;> simp [syms2]
    · rw [if_neg]
      · rfl
      · cases r <;> simp [syms2]
  rcases hc with rfl | rfl
  · exact stp_one 91 r (by decide) (by decide) (by decide) (by decide) (by simp) hs
  · exact stp_one 123 r (by decide) (by decide) (by decide) (by decide) (by simp) hs
theorem tx_head : ∀ (g : GT) (r : List UInt8), (g.tx ++ r).head? ≠ some 42
  | .z, r => by simp [GT.tx]
  | .bin .., r => by simp [GT.tx]
  | .un .., r => by simp [GT.tx]
  | .num n, r => by
    intro e
    have hne : Lib.decDigits n ≠ [] := (dec_digs n).2.2
    cases hd : Lib.decDigits n with
    | nil => exact absurd hd hne
    | cons c l =>
      have e' : (c :: (l ++ r)).head? = some (42 : UInt8) := by rw [← List.cons_append, ← hd]; exact e
      have hc : c = 42 := Option.some.inj e'
      have := (dec_digs n).1 c (by rw [hd]; simp)
      rw [hc] at this
      exact absurd this.1 (by decide)
  | .idx a, r => by simp [GT.tx]
  | .call .., r => by simp [GT.tx]
  | .set .., r => by simp [GT.tx]
  | .str, r => by simp [GT.tx]
/-- A TREE'S TEXT IS SCANNED AS ITS TOKENS, whatever may stand behind. -/
theorem sT_tree : ∀ (g : GT), g.ok → ∀ r, folL r → sT (g.tx ++ r) = (g.tok ++ (sT r).1, (sT r).2)
  | .z, _, r, hr => sT_end (u := [122]) (by simp) rfl hr
  | .str, _, r, hr => sT_end (u := [39, 113, 39]) (by simp) rfl hr
  | .num n, hn, r, hr => by
    have h1 := num_back ⟨2, [], n⟩ rfl rfl (by simp) (by simp only; have : n ≤ 65535 := hn; omega) [] (fun c h => by cases h)
    simp only [Int.toNat_natCast, List.append_nil] at h1
    exact sT_end (u := Lib.decDigits n) ((dec_digs n).2.2) h1 hr
  | .bin o a b, h, r, hr => by
    obtain ⟨ho, ha, hb⟩ := h
    have e : (GT.bin o a b).tx ++ r = 40 :: (a.tx ++ 32 :: (opB o ++ 32 :: (b.tx ++ 41 :: r))) := by simp [GT.tx]
    rw [e, sT_cons (stp_open _ (tx_head a _)), sT_tree a ha _ (.inr ⟨32, _, rfl, rfl⟩), sT_space, sT_tok _ (op_ne o ho _) _ _ (op_step o ho _), List.drop_left, sT_space, sT_tree b hb _ (.inr ⟨41, _, rfl, rfl⟩), sT_cons (stp_close r)]
    simp [GT.tok, tOpen, tClose]
  | .un o a, h, r, hr => by
    obtain ⟨ho, ha⟩ := h
    have e : (GT.un o a).tx ++ r = 40 :: (unB o ++ 32 :: (a.tx ++ 41 :: r)) := by simp [GT.tx]
    have hu : (unB o ++ 32 :: (a.tx ++ 41 :: r)).head? ≠ some (42 : UInt8) := by
      match o, ho with
      | 0, _ => intro e; injection e with e; exact absurd e (by decide)
      | 1, _ => intro e; injection e with e; exact absurd e (by decide)
      | 2, _ => intro e; injection e with e; exact absurd e (by decide)
      | n + 3, h => omega
    rw [e, sT_cons (stp_open _ hu), sT_tok _ (by simp) _ _ (un_step o ho _), List.drop_left, sT_space, sT_tree a ha _ (.inr ⟨41, _, rfl, rfl⟩), sT_cons (stp_close r)]
    simp [GT.tok, tOpen, tClose]
  | .idx a, ha, r, hr => by
    have e : (GT.idx a).tx ++ r = 118 :: 91 :: (a.tx ++ 93 :: 94 :: 46 :: ([102] ++ r)) := by simp [GT.tx]
    rw [e, sT_cons (t := nmT 118) rfl, sT_cons (stp_sym1 91 (.inl rfl) _), sT_tree a ha _ (.inr ⟨93, _, rfl, rfl⟩), sT_cons (c := 93) (t := sy [93]) rfl, sT_cons (c := 94) (t := sy [94]) rfl, sT_cons (c := 46) (t := sy [46]) rfl, sT_end (u := [102]) (t := nmT 102) (by simp) rfl hr]
    simp [GT.tok, tOpen, tClose]
  | .call a b, h, r, hr => by
    obtain ⟨ha, hb⟩ := h
    have e : (GT.call a b).tx ++ r = 103 :: 40 :: (a.tx ++ 44 :: 32 :: (b.tx ++ 41 :: r)) := by simp [GT.tx]
    rw [e, sT_cons (t := nmT 103) rfl, sT_cons (stp_open _ (tx_head a _)), sT_tree a ha _ (.inr ⟨44, _, rfl, rfl⟩), sT_cons (c := 44) (t := sy [44]) rfl, sT_space, sT_tree b hb _ (.inr ⟨41, _, rfl, rfl⟩), sT_cons (stp_close r)]
    simp [GT.tok, tOpen, tClose]
  | .set a b, h, r, hr => by
    obtain ⟨ha, hb⟩ := h
    have e : (GT.set a b).tx ++ r = 83 :: 123 :: (a.tx ++ 32 :: 46 :: 46 :: 32 :: (b.tx ++ ([125] ++ r))) := by simp [GT.tx]
    rw [e, sT_cons (t := nmT 83) rfl, sT_cons (stp_sym1 123 (.inr rfl) _), sT_tree a ha _ (.inr ⟨32, _, rfl, rfl⟩), sT_space, sT_tok _ (by simp) (sy [46, 46]) 2 rfl]
    rw [show (46 :: 46 :: 32 :: (b.tx ++ ([125] ++ r))).drop 2 = 32 :: (b.tx ++ ([125] ++ r)) from rfl, sT_space, sT_tree b hb ([125] ++ r) (.inr ⟨125, r, rfl, rfl⟩), sT_end (u := [125]) (t := sy [125]) (by simp) rfl hr]
    simp [GT.tok]
end Go.Proofs.Ytnaihncmichfaaa
/- Layer 6 by plain functions: trees that are grown are read as themselves. No program stands in here. -/
namespace Go.Proofs.Ytnaihncmichfaaa
open Go.RowKit
set_option maxHeartbeats 1000000
set_option maxRecDepth 10000
set_option linter.unusedVariables false
set_option linter.unusedSimpArgs false

def n0 (k : Nat) (x : List UInt8) (n : Int) : ND := ⟨k, 0, 0, x, n⟩
/-- The tree, without places. -/
def GT.dt : GT → DT
  | .z => .node (n0 1 [122] 0) []
  | .bin o a b => .node (n0 11 (opB o) 0) [a.dt, b.dt]
  | .un o a => .node (n0 12 (unB o) 0) [a.dt]
  | .num n => .node (n0 5 [] n) []
  | .idx a => .node (n0 2 [102] 0) [.node (n0 4 [] 0) [.node (n0 3 [] 0) [.node (n0 1 [118] 0) [], a.dt]]]
  | .call a b => .node (n0 10 [] 0) [.node (n0 1 [103] 0) [], a.dt, b.dt]
  | .set a b => .node (n0 8 [] 0) [.node (n0 1 [83] 0) [], .node (n0 9 [] 0) [a.dt, b.dt]]
  | .str => .node (n0 7 [113] 0) []
def GT.sz : GT → Nat
  | .z => 1
  | .bin _ a b => a.sz + b.sz + 1
  | .un _ a => a.sz + 1
  | .num _ => 1
  | .idx a => a.sz + 1
  | .call a b => a.sz + b.sz + 1
  | .set a b => a.sz + b.sz + 1
  | .str => 1
/-- What ends an operand: nothing that goes on, and no operator. -/
def endB (t : T0) : Bool := !(t.k == 5 && ([[46], [94], [91], [123], [40]] : List (List UInt8)).contains t.x) &&
  !(relT.lookup t.x == some t.k) && !(sumT.lookup t.x == some t.k) && !(mulT.lookup t.x == some t.k)
theorem endB_facts {t : TK} (h : endB t.1 = true) : isS t [46] = false ∧ isS t [94] = false ∧ isS t [91] = false ∧ isS t [123] = false ∧ isS t [40] = false ∧ isO relT t = false ∧ isO sumT t = false ∧ isO mulT t = false := by
  unfold endB at h
  simp only [Bool.and_eq_true, Bool.not_eq_true'] at h
  obtain ⟨⟨⟨h1, h2⟩, h3⟩, h4⟩ := h
  have hs : ∀ s, s ∈ ([[46], [94], [91], [123], [40]] : List (List UInt8)) → isS t s = false := fun s hm => by
    unfold isS
    cases hk : (t.1.k == 5) with
    | false => rfl
    | true =>
      rw [hk, Bool.true_and] at h1
      rw [Bool.true_and]
      refine beq_eq_false_iff_ne.2 fun e => ?_
      rw [e] at h1
      rw [List.contains_iff_mem.2 hm] at h1
      cases h1
  exact ⟨hs _ (by simp), hs _ (by simp), hs _ (by simp), hs _ (by simp), hs _ (by simp), h2, h3, h4⟩
/-- These tokens stand in the row from i on. -/
def At (us : List TK) (i : Nat) (l : List T0) : Prop := ∀ j t, l[j]? = some t → (tk us (i + j)).1 = t
theorem At.left {us : List TK} {i : Nat} {a b : List T0} (h : At us i (a ++ b)) : At us i a := fun j t ht => h j t (by
  have := (List.getElem?_eq_some_iff.1 ht).1
  rw [List.getElem?_append_left this]; exact ht)
theorem At.right {us : List TK} {i : Nat} {a b : List T0} (h : At us i (a ++ b)) : At us (i + a.length) b := fun j t ht => by
  have := h (a.length + j) t (by rw [List.getElem?_append_right (by omega), Nat.add_sub_cancel_left]; exact ht)
  rw [Nat.add_assoc]; exact this
theorem At.head {us : List TK} {i : Nat} {t : T0} {l : List T0} (h : At us i (t :: l)) : (tk us i).1 = t := h 0 t rfl
theorem At.tail {us : List TK} {i : Nat} {t : T0} {l : List T0} (h : At us i (t :: l)) : At us (i + 1) l := fun j u hu => by
  have := h (j + 1) u hu
  rw [show i + 1 + j = i + (j + 1) by omega]; exact this
theorem tok_first : ∀ g : GT, ∃ t r, g.tok = t :: r ∧ t.k ≠ 0 ∧ (notT.lookup t.x == some t.k) = false ∧ (signT.lookup t.x == some t.k) = false ∧ (t.k == 5 && t.x == [41]) = false ∧ (t.k == 5 && t.x == [125]) = false
  | .z => ⟨_, _, rfl, by decide, by decide, by decide, by decide, by decide⟩
  | .bin .. => ⟨_, _, rfl, by decide, by decide, by decide, by decide, by decide⟩
  | .un .. => ⟨_, _, rfl, by decide, by decide, by decide, by decide, by decide⟩
  | .num n => ⟨_, _, rfl, by simp, rfl, rfl, rfl, rfl⟩
  | .idx .. => ⟨_, _, rfl, by decide, by decide, by decide, by decide, by decide⟩
  | .call .. => ⟨_, _, rfl, by decide, by decide, by decide, by decide, by decide⟩
  | .set .. => ⟨_, _, rfl, by decide, by decide, by decide, by decide, by decide⟩
  | .str => ⟨_, _, rfl, by decide, by decide, by decide, by decide, by decide⟩
theorem first_facts {us : List TK} {i : Nat} {g : GT} (h : At us i g.tok) : isO notT (tk us i) = false ∧ isO signT (tk us i) = false ∧ isS (tk us i) [41] = false ∧ isS (tk us i) [125] = false ∧ i < us.length := by
  obtain ⟨t, r, e, h0, h1, h2, h3, h4⟩ := tok_first g
  rw [e] at h
  have ht := h.head
  unfold isO isS
  rw [ht]
  exact ⟨h1, h2, h3, h4, k_lt (by rw [ht]; exact h0)⟩
section
variable {us : List TK} {E : Nat → Re} {i j q : Nat} {x y : DT}
theorem fac_of (h : operM us E i = .ok x j) (h1 : isO notT (tk us i) = false) : facM us E i = .ok x j := by
  have o1 : opsM us notT (us.length + 1) i = 0 := by unfold opsM; rw [h1]; rfl
  unfold facM aheadM
  simp only [if_true, o1, Nat.add_zero, h]
  rfl
theorem term_of (h : facM us E i = .ok x j) (h3 : isO mulT (tk us j) = false) : termM us E i = .ok x j := by
  unfold termM betwM
  rw [h]
  simp only
  unfold moreM
  rw [h3]; rfl
theorem sim_of (h : termM us E i = .ok x j) (h2 : isO signT (tk us i) = false) (h4 : isO sumT (tk us j) = false) : simM us E i = .ok x j := by
  have o2 : opsM us signT 1 i = 0 := by unfold opsM; rw [h2]; rfl
  have s0 : aheadM us signT false (termM us E) i = .ok x j := by
    unfold aheadM
    simp only [Bool.false_eq_true, if_false, o2, Nat.add_zero, h]
    rfl
  unfold simM betwM
  rw [s0]
  simp only
  unfold moreM
  rw [h4]; rfl
theorem ex_of (h : simM us E i = .ok x j) (h5 : isO relT (tk us j) = false) : exM us E i = .ok x j := by
  unfold exM betwM
  rw [h]
  simp only
  unfold moreM
  rw [h5]; rfl
/-- Two operands with an operator between them. -/
theorem lift_bin {o : Nat} (ho : o < 15) (hx : operM us E i = .ok x j) (a1 : isO notT (tk us i) = false) (a2 : isO signT (tk us i) = false) (hop : (tk us j).1 = opT o) (hy : operM us E (j + 1) = .ok y q) (b1 : isO notT (tk us (j + 1)) = false) (b2 : isO signT (tk us (j + 1)) = false) (hq : endB (tk us q).1 = true) (hl : 1 ≤ us.length) :
    exM us E i = .ok (.node (nd 11 (tk us j) (opB o) 0) [x, y]) q := by
  obtain ⟨_, _, _, _, _, q1, q2, q3⟩ := endB_facts hq
  have hX := fac_of hx a1
  have hY := fac_of hy b1
  obtain ⟨L, hL⟩ : ∃ L, us.length = L + 1 := ⟨us.length - 1, by omega⟩
  have hxx : (tk us j).1.x = opB o := by rw [hop]; rfl
  rcases (by omega : o < 5 ∨ (5 ≤ o ∧ o < 8) ∨ (8 ≤ o ∧ o < 15)) with h | h | h
  · have e1 : isO mulT (tk us j) = true := by
      unfold isO; rw [hop]
      match o, h with
      | 0, _ => rfl
      | 1, _ => rfl
      | 2, _ => rfl
      | 3, _ => rfl
      | 4, _ => rfl
    have t : termM us E i = .ok (.node (nd 11 (tk us j) (opB o) 0) [x, y]) q := by
      unfold termM betwM
      rw [hX]
      simp only
      rw [hL]
      unfold moreM
      rw [e1, hY]
      simp only [if_true]
      unfold moreM
      rw [q3, hxx]; rfl
    exact ex_of (sim_of t a2 q2) q1
  · have e0 : isO mulT (tk us j) = false := by
      unfold isO; rw [hop]
      match o, h with
      | 5, _ => rfl
      | 6, _ => rfl
      | 7, _ => rfl
    have e1 : isO sumT (tk us j) = true := by
      unfold isO; rw [hop]
      match o, h with
      | 5, _ => rfl
      | 6, _ => rfl
      | 7, _ => rfl
    have o2 : opsM us signT 1 i = 0 := by unfold opsM; rw [a2]; rfl
    have s0 : aheadM us signT false (termM us E) i = .ok x j := by
      unfold aheadM
      simp only [Bool.false_eq_true, if_false, o2, Nat.add_zero, term_of hX e0]
      rfl
    have t : simM us E i = .ok (.node (nd 11 (tk us j) (opB o) 0) [x, y]) q := by
      unfold simM betwM
      rw [s0]
      simp only
      rw [hL]
      unfold moreM
      rw [e1, term_of hY q3]
      simp only [if_true]
      unfold moreM
      rw [q2, hxx]; rfl
    exact ex_of t q1
  · have e0 : isO mulT (tk us j) = false := by
      unfold isO; rw [hop]
      match o, h with
      | 8, _ => rfl
      | 9, _ => rfl
      | 10, _ => rfl
      | 11, _ => rfl
      | 12, _ => rfl
      | 13, _ => rfl
      | 14, _ => rfl
    have e2 : isO sumT (tk us j) = false := by
      unfold isO; rw [hop]
      match o, h with
      | 8, _ => rfl
      | 9, _ => rfl
      | 10, _ => rfl
      | 11, _ => rfl
      | 12, _ => rfl
      | 13, _ => rfl
      | 14, _ => rfl
    have e1 : isO relT (tk us j) = true := by
      unfold isO; rw [hop]
      match o, h with
      | 8, _ => rfl
      | 9, _ => rfl
      | 10, _ => rfl
      | 11, _ => rfl
      | 12, _ => rfl
      | 13, _ => rfl
      | 14, _ => rfl
    unfold exM betwM
    rw [sim_of (term_of hX e0) a2 e2]
    simp only
    unfold moreM
    rw [e1, sim_of (term_of hY q3) b2 q2]
    simp only [if_true, Bool.false_eq_true, if_false]
    rw [hxx]
/-- An operator ahead of an operand. -/
theorem lift_un {o : Nat} (ho : o < 3) (hop : (tk us i).1 = unT o) (hx : operM us E (i + 1) = .ok x q) (b1 : isO notT (tk us (i + 1)) = false) (hq : endB (tk us q).1 = true) (hl : 1 ≤ us.length) :
    exM us E i = .ok (.node (nd 12 (tk us i) (unB o) 0) [x]) q := by
  obtain ⟨_, _, _, _, _, q1, q2, q3⟩ := endB_facts hq
  obtain ⟨L, hL⟩ : ∃ L, us.length = L + 1 := ⟨us.length - 1, by omega⟩
  have hxx : (tk us i).1.x = unB o := by rw [hop]; rfl
  rcases (by omega : o < 2 ∨ o = 2) with h | rfl
  · have e1 : isO signT (tk us i) = true := by
      unfold isO; rw [hop]
      match o, h with
      | 0, _ => rfl
      | 1, _ => rfl
    have o2 : opsM us signT 1 i = 1 := by unfold opsM; rw [e1]; rfl
    have s0 : aheadM us signT false (termM us E) i = .ok (.node (nd 12 (tk us i) (unB o) 0) [x]) q := by
      unfold aheadM
      simp only [Bool.false_eq_true, if_false, o2, term_of (fac_of hx b1) q3]
      show Re.ok (.node (nd 12 (tk us (i + 0)) (tk us (i + 0)).1.x 0) [x]) q = _
      rw [Nat.add_zero, hxx]
    have s : simM us E i = .ok (.node (nd 12 (tk us i) (unB o) 0) [x]) q := by
      unfold simM betwM
      rw [s0]
      simp only
      unfold moreM
      rw [q2]; rfl
    exact ex_of s q1
  · have e1 : isO notT (tk us i) = true := by unfold isO; rw [hop]; rfl
    have e2 : isO signT (tk us i) = false := by unfold isO; rw [hop]; rfl
    have o1 : opsM us notT (us.length + 1) i = 1 := by
      rw [hL]
      unfold opsM
      rw [e1]
      simp only [if_true]
      unfold opsM
      rw [b1]; rfl
    have f : facM us E i = .ok (.node (nd 12 (tk us i) (unB 2) 0) [x]) q := by
      unfold facM aheadM
      simp only [if_true, o1, hx]
      show Re.ok (.node (nd 12 (tk us (i + 0)) (tk us (i + 0)).1.x 0) [x]) q = _
      rw [Nat.add_zero, hxx]
    exact ex_of (sim_of (term_of f q3) e2 q2) q1
end
end Go.Proofs.Ytnaihncmichfaaa
/- Layer 6 by plain functions: trees that are grown are read as themselves: all of them. No program stands in here. -/
namespace Go.Proofs.Ytnaihncmichfaaa
open Go.RowKit
set_option maxHeartbeats 1000000
set_option maxRecDepth 10000
set_option linter.unusedVariables false
set_option linter.unusedSimpArgs false

/-- What does not go on behind an operand. -/
def contB (t : T0) : Bool := !(t.k == 5 && ([[46], [94], [91], [123], [40]] : List (List UInt8)).contains t.x)
theorem end_cont {t : T0} (h : endB t = true) : contB t = true := by
  unfold endB at h
  simp only [Bool.and_eq_true] at h
  exact h.1.1.1
theorem cont_facts {t : TK} (h : contB t.1 = true) : isS t [46] = false ∧ isS t [94] = false ∧ isS t [91] = false ∧ isS t [123] = false ∧ isS t [40] = false := by
  unfold contB at h
  simp only [Bool.not_eq_true'] at h
  have hs : ∀ s, s ∈ ([[46], [94], [91], [123], [40]] : List (List UInt8)) → isS t s = false := fun s hm => by
    unfold isS
    cases hk : (t.1.k == 5) with
    | false => rfl
    | true =>
      rw [hk, Bool.true_and] at h
      rw [Bool.true_and]
      refine beq_eq_false_iff_ne.2 fun e => ?_
      rw [e] at h
      rw [List.contains_iff_mem.2 hm] at h
      cases h
  exact ⟨hs _ (by simp), hs _ (by simp), hs _ (by simp), hs _ (by simp), hs _ (by simp)⟩
theorem op_cont (o : Nat) (ho : o < 15) : contB (opT o) = true := by
  match o, ho with
  | 0, _ => rfl
  | 1, _ => rfl
  | 2, _ => rfl
  | 3, _ => rfl
  | 4, _ => rfl
  | 5, _ => rfl
  | 6, _ => rfl
  | 7, _ => rfl
  | 8, _ => rfl
  | 9, _ => rfl
  | 10, _ => rfl
  | 11, _ => rfl
  | 12, _ => rfl
  | 13, _ => rfl
  | 14, _ => rfl
section
variable {us : List TK} {E : Nat → Re} {i : Nat}
theorem qual_name {c : UInt8} (h : (tk us i).1 = nmT c) (hc : isS (tk us (i + 1)) [46] = false) : qualM us i = .ok (.node (nd 1 (tk us i) [c] 0) []) (i + 1) := by
  have hx : (tk us i).1.x = [c] := by rw [h]; rfl
  unfold qualM
  rw [if_pos (by rw [h]; rfl), hx]
  unfold dotsM
  rw [hc]; rfl
theorem sel_stop {x : DT} {F : Nat} (h : isS (tk us i) [46] = false ∧ isS (tk us i) [94] = false ∧ isS (tk us i) [91] = false) : selM us E (F + 1) false x i = .ok x i := by
  unfold selM
  rw [h.1, h.2.1, h.2.2]; rfl
theorem oper_name {c : UInt8} (h : (tk us i).1 = nmT c) (hc : contB (tk us (i + 1)).1 = true) : operM us E i = .ok (.node (nd 1 (tk us i) [c] 0) []) (i + 1) := by
  obtain ⟨c1, c2, c3, c4, c5⟩ := cont_facts hc
  unfold operM
  rw [if_pos (by rw [h]; rfl)]
  unfold nmdM
  rw [qual_name h c1]
  simp only [c4, Bool.false_eq_true, if_false]
  rw [sel_stop ⟨c1, c2, c3⟩]
  simp only [c5, Bool.false_eq_true, if_false]
theorem sy_is {t : TK} {x : List UInt8} (h : t.1 = sy x) (s : List UInt8) : isS t s = (x == s) := by
  unfold isS; rw [h]; rfl
theorem open_is {t : TK} (h : t.1 = tOpen) (s : List UInt8) : isS t s = (([40] : List UInt8) == s) := by
  unfold isS; rw [h]; rfl
theorem close_is {t : TK} (h : t.1 = tClose) (s : List UInt8) : isS t s = (([41] : List UInt8) == s) := by
  unfold isS; rw [h]; rfl
end
/-- A tree that stands in a row is read there as an expression, where what ends one stands behind. -/
def Reads (us : List TK) (g : GT) : Prop := ∀ m i, At us i g.tok → contB (tk us (i + g.tok.length)).1 = true → g.sz ≤ m → ∃ d, operM us (exprM us m) i = .ok d (i + g.tok.length) ∧ simD g.dt d
theorem Reads.expr {us : List TK} {g : GT} (h : Reads us g) {m i : Nat} (hA : At us i g.tok) (he : endB (tk us (i + g.tok.length)).1 = true) (hm : g.sz ≤ m) : ∃ d, exprM us (m + 1) i = .ok d (i + g.tok.length) ∧ simD g.dt d := by
  obtain ⟨d, h1, h2⟩ := h m i hA (end_cont he) hm
  obtain ⟨_, _, _, _, _, q1, q2, q3⟩ := endB_facts he
  obtain ⟨f1, f2, _, _, _⟩ := first_facts hA
  exact ⟨d, ex_of (sim_of (term_of (fac_of h1 f1) q3) f2 q2) q1, h2⟩
theorem sim_nd {k : Nat} {t : TK} {x : List UInt8} {n : Int} {l l' : List DT} (h : simL l l') : simD (.node (n0 k x n) l) (.node (nd k t x n) l') := ⟨⟨rfl, rfl, rfl⟩, h⟩
theorem reads_tree (us : List TK) : ∀ g : GT, g.ok → Reads us g
  | .z, _ => fun m i hA hc _ => ⟨_, oper_name hA.head hc, sim_nd trivial⟩
  | .num n, _ => fun m i hA hc _ => by
    have h := hA.head
    refine ⟨.node (nd 5 (tk us i) [] (tk us i).1.n) [], ?_, ?_⟩
    · unfold operM
      rw [if_neg (by rw [h]; exact (by decide : ¬ (2 : Nat) = 1)), if_pos (by rw [h])]
      rfl
    · rw [h]; exact sim_nd trivial
  | .str, _ => fun m i hA hc _ => by
    have h := hA.head
    refine ⟨.node (nd 7 (tk us i) (tk us i).1.x 0) [], ?_, ?_⟩
    · unfold operM
      rw [if_neg (by rw [h]; decide), if_neg (by rw [h]; decide), if_neg (by rw [h]; decide), if_pos (by rw [h])]
      rfl
    · rw [h]; exact sim_nd trivial
  | .bin o a b, hok => fun m i hA hc hm => by
    obtain ⟨ho, ha, hb⟩ := hok
    have ra := reads_tree us a ha
    have rb := reads_tree us b hb
    obtain ⟨m, rfl⟩ : ∃ k, m = k + 1 := ⟨m - 1, by simp only [GT.sz] at hm; omega⟩
    simp only [GT.sz] at hm
    simp only [GT.tok] at hA
    have h0 := hA.head
    have t1 := hA.tail
    have A1 := t1.left
    have t2 := t1.right
    have h2 := t2.head
    have t3 := t2.tail
    have A3 := t3.left
    have h4 := t3.right.head
    obtain ⟨x, hx, sx⟩ := ra m (i + 1) A1 (by rw [h2]; exact op_cont o ho) (by omega)
    have hcl : endB (tk us (i + 1 + a.tok.length + 1 + b.tok.length)).1 = true := by rw [h4]; rfl
    obtain ⟨y, hy, sy'⟩ := rb m (i + 1 + a.tok.length + 1) A3 (end_cont hcl) (by omega)
    obtain ⟨f1, f2, _, _, fl⟩ := first_facts A1
    obtain ⟨g1, g2, _, _, _⟩ := first_facts A3
    have he := lift_bin ho hx f1 f2 h2 hy g1 g2 hcl (by omega)
    refine ⟨(.node (nd 11 (tk us (i + 1 + a.tok.length)) (opB o) 0) [x, y]), ?_, ?_⟩
    · have := oper_open (E := exprM us (m + 1)) (i := i) h0 he h4
      rw [show i + (GT.bin o a b).tok.length = i + 1 + a.tok.length + 1 + b.tok.length + 1 by simp only [GT.tok, List.length_cons, List.length_append, List.length_nil]; omega]
      exact this
    · exact sim_nd ⟨sx, sy', trivial⟩
  | .un o a, hok => fun m i hA hc hm => by
    obtain ⟨ho, ha⟩ := hok
    have ra := reads_tree us a ha
    obtain ⟨m, rfl⟩ : ∃ k, m = k + 1 := ⟨m - 1, by simp only [GT.sz] at hm; omega⟩
    simp only [GT.sz] at hm
    simp only [GT.tok] at hA
    have h0 := hA.head
    have t1 := hA.tail
    have h1 := t1.head
    have t2 := t1.tail
    have A2 := t2.left
    have h3 := t2.right.head
    have hcl : endB (tk us (i + 1 + 1 + a.tok.length)).1 = true := by rw [h3]; rfl
    obtain ⟨x, hx, sx⟩ := ra m (i + 1 + 1) A2 (end_cont hcl) (by omega)
    obtain ⟨f1, _, _, _, fl⟩ := first_facts A2
    have he := lift_un ho h1 hx f1 hcl (by omega)
    refine ⟨(.node (nd 12 (tk us (i + 1)) (unB o) 0) [x]), ?_, ?_⟩
    · have := oper_open (E := exprM us (m + 1)) (i := i) h0 he h3
      rw [show i + (GT.un o a).tok.length = i + 1 + 1 + a.tok.length + 1 by simp only [GT.tok, List.length_cons, List.length_append, List.length_nil]; omega]
      exact this
    · exact sim_nd ⟨sx, trivial⟩
  | .idx a, hok => fun m i hA hc hm => by
    have ra := reads_tree us a hok
    obtain ⟨m, rfl⟩ : ∃ k, m = k + 1 := ⟨m - 1, by simp only [GT.sz] at hm; omega⟩
    simp only [GT.sz] at hm
    have hlen : i + (GT.idx a).tok.length = i + 1 + 1 + a.tok.length + 1 + 1 + 1 + 1 := by simp only [GT.tok, List.length_cons, List.length_append, List.length_nil]; omega
    rw [hlen] at hc ⊢
    simp only [GT.tok] at hA
    have h0 := hA.head
    have t1 := hA.tail
    have h1 := t1.head
    have t2 := t1.tail
    have A2 := t2.left
    have t3 := t2.right
    have h3 := t3.head
    have t4 := t3.tail
    have h4 := t4.head
    have t5 := t4.tail
    have h5 := t5.head
    have h6 := t5.tail.head
    have hcl : endB (tk us (i + 1 + 1 + a.tok.length)).1 = true := by rw [h3]; rfl
    obtain ⟨e, he, se⟩ := ra.expr A2 hcl (m := m) (by omega)
    obtain ⟨c1, c2, c3, c4, c5⟩ := cont_facts hc
    have hl : i + 1 + 1 + a.tok.length + 1 + 1 + 1 < us.length := k_lt (by rw [h6]; decide)
    obtain ⟨F, hF⟩ : ∃ F, 2 * us.length + 2 = F + 5 := ⟨2 * us.length - 3, by omega⟩
    have hs : selM us (exprM us (m + 1)) (2 * us.length + 2) false (.node (nd 1 (tk us i) [118] 0) []) (i + 1) = .ok (.node (nd 2 (tk us (i + 1 + 1 + a.tok.length + 1 + 1)) [102] 0) [.node (nd 4 (tk us (i + 1 + 1 + a.tok.length + 1)) [] 0) [.node (nd 3 (tk us (i + 1)) [] 0) [.node (nd 1 (tk us i) [118] 0) [], e]]]) (i + 1 + 1 + a.tok.length + 1 + 1 + 1 + 1) := by
      rw [hF]
      unfold selM
      rw [sy_is h1, sy_is h1, sy_is h1, if_neg (by decide), if_neg (by decide), if_pos (by decide)]
      unfold selM
      rw [he]
      simp only [sy_is h3]
      rw [if_neg (by decide), if_pos (by decide)]
      unfold selM
      rw [sy_is h4, sy_is h4, if_neg (by decide), if_pos (by decide)]
      unfold selM
      rw [sy_is h5, if_pos (by decide)]
      unfold dotM
      rw [if_pos (by rw [h6]; rfl)]
      simp only
      rw [sel_stop (i := i + 1 + 1 + a.tok.length + 1 + 1 + 2) ⟨c1, c2, c3⟩]
      rw [show (tk us (i + 1 + 1 + a.tok.length + 1 + 1 + 1)).1.x = [102] by rw [h6]; rfl]
    refine ⟨(.node (nd 2 (tk us (i + 1 + 1 + a.tok.length + 1 + 1)) [102] 0) [.node (nd 4 (tk us (i + 1 + 1 + a.tok.length + 1)) [] 0) [.node (nd 3 (tk us (i + 1)) [] 0) [.node (nd 1 (tk us i) [118] 0) [], e]]]), ?_, ?_⟩
    · unfold operM
      rw [if_pos (by rw [h0]; rfl)]
      unfold nmdM
      rw [qual_name h0 (by rw [sy_is h1]; decide)]
      simp only [sy_is h1]
      rw [if_neg (by decide), hs]
      simp only [c5, Bool.false_eq_true, if_false]
    · exact sim_nd ⟨sim_nd ⟨sim_nd ⟨sim_nd trivial, se, trivial⟩, trivial⟩, trivial⟩
  | .call a b, hok => fun m i hA hc hm => by
    obtain ⟨ha, hb⟩ := hok
    have ra := reads_tree us a ha
    have rb := reads_tree us b hb
    obtain ⟨m, rfl⟩ : ∃ k, m = k + 1 := ⟨m - 1, by simp only [GT.sz] at hm; omega⟩
    simp only [GT.sz] at hm
    have hlen : i + (GT.call a b).tok.length = i + 1 + 1 + a.tok.length + 1 + b.tok.length + 1 := by simp only [GT.tok, List.length_cons, List.length_append, List.length_nil]; omega
    rw [hlen] at hc ⊢
    simp only [GT.tok] at hA
    have h0 := hA.head
    have t1 := hA.tail
    have h1 := t1.head
    have t2 := t1.tail
    have A2 := t2.left
    have t3 := t2.right
    have h3 := t3.head
    have t4 := t3.tail
    have A4 := t4.left
    have h5 := t4.right.head
    have hcl : endB (tk us (i + 1 + 1 + a.tok.length)).1 = true := by rw [h3]; rfl
    have hcl2 : endB (tk us (i + 1 + 1 + a.tok.length + 1 + b.tok.length)).1 = true := by rw [h5]; rfl
    obtain ⟨e, he, se⟩ := ra.expr A2 hcl (m := m) (by omega)
    obtain ⟨f, hf, sf⟩ := rb.expr A4 hcl2 (m := m) (by omega)
    obtain ⟨_, _, n1, _, nl⟩ := first_facts A2
    obtain ⟨F, hF⟩ : ∃ F, us.length = F + 1 := ⟨us.length - 1, by omega⟩
    have hw : withM us [41] (exprM us (m + 1)) (i + 1) = .ok [e, f] (i + 1 + 1 + a.tok.length + 1 + b.tok.length + 1) := by
      unfold withM
      rw [n1]
      simp only [Bool.false_eq_true, if_false]
      rw [hF]
      unfold lstM
      rw [he]
      simp only [sy_is h3]
      rw [if_pos (by decide)]
      unfold lstM
      rw [hf]
      simp only [close_is h5]
      rw [if_neg (by decide)]
      simp only [close_is h5]
      rw [if_pos (by decide)]
      rfl
    refine ⟨(.node (nd 10 (tk us (i + 1)) [] 0) [.node (nd 1 (tk us i) [103] 0) [], e, f]), ?_, ?_⟩
    · unfold operM
      rw [if_pos (by rw [h0]; rfl)]
      unfold nmdM
      rw [qual_name h0 (by rw [open_is h1]; decide)]
      simp only [open_is h1]
      rw [if_neg (by decide), sel_stop ⟨by rw [open_is h1]; decide, by rw [open_is h1]; decide, by rw [open_is h1]; decide⟩]
      simp only [open_is h1]
      rw [if_pos (by decide)]
      unfold callM
      rw [hw]
      rfl
    · exact sim_nd ⟨sim_nd trivial, se, sf, trivial⟩
  | .set a b, hok => fun m i hA hc hm => by
    obtain ⟨ha, hb⟩ := hok
    have ra := reads_tree us a ha
    have rb := reads_tree us b hb
    obtain ⟨m, rfl⟩ : ∃ k, m = k + 1 := ⟨m - 1, by simp only [GT.sz] at hm; omega⟩
    simp only [GT.sz] at hm
    have hlen : i + (GT.set a b).tok.length = i + 1 + 1 + a.tok.length + 1 + b.tok.length + 1 := by simp only [GT.tok, List.length_cons, List.length_append, List.length_nil]; omega
    rw [hlen] at hc ⊢
    simp only [GT.tok] at hA
    have h0 := hA.head
    have t1 := hA.tail
    have h1 := t1.head
    have t2 := t1.tail
    have A2 := t2.left
    have t3 := t2.right
    have h3 := t3.head
    have t4 := t3.tail
    have A4 := t4.left
    have h5 := t4.right.head
    have hcl : endB (tk us (i + 1 + 1 + a.tok.length)).1 = true := by rw [h3]; rfl
    have hcl2 : endB (tk us (i + 1 + 1 + a.tok.length + 1 + b.tok.length)).1 = true := by rw [h5]; rfl
    obtain ⟨e, he, se⟩ := ra.expr A2 hcl (m := m) (by omega)
    obtain ⟨f, hf, sf⟩ := rb.expr A4 hcl2 (m := m) (by omega)
    obtain ⟨_, _, _, n1, nl⟩ := first_facts A2
    have hel : elemM us (exprM us (m + 1)) (i + 1 + 1) = .ok (.node (nd 9 (tk us (i + 1 + 1)) [] 0) [e, f]) (i + 1 + 1 + a.tok.length + 1 + b.tok.length) := by
      unfold elemM
      rw [he]
      simp only
      unfold elTl
      rw [sy_is h3, if_pos (by decide), hf]
    have hw : withM us [125] (elemM us (exprM us (m + 1))) (i + 1) = .ok [.node (nd 9 (tk us (i + 1 + 1)) [] 0) [e, f]] (i + 1 + 1 + a.tok.length + 1 + b.tok.length + 1) := by
      unfold withM
      rw [n1]
      simp only [Bool.false_eq_true, if_false]
      unfold lstM
      rw [hel]
      simp only [sy_is h5]
      rw [if_neg (by decide)]
      simp only [sy_is h5]
      rw [if_pos (by decide)]
      rfl
    refine ⟨(.node (nd 8 (tk us i) [] 0) [.node (nd 1 (tk us i) [83] 0) [], .node (nd 9 (tk us (i + 1 + 1)) [] 0) [e, f]]), ?_, ?_⟩
    · unfold operM
      rw [if_pos (by rw [h0]; rfl)]
      unfold nmdM
      rw [qual_name h0 (by rw [sy_is h1]; decide)]
      simp only [sy_is h1]
      rw [if_pos (by decide)]
      unfold setM
      rw [hw]
      rfl
    · exact sim_nd ⟨sim_nd trivial, sim_nd ⟨se, sf, trivial⟩, trivial⟩
end Go.Proofs.Ytnaihncmichfaaa
/- Layer 6 by plain functions: a tree that is grown, written, and read again, whatever stands behind. No program stands in here. -/
namespace Go.Proofs.Ytnaihncmichfaaa
open Go.RowKit
set_option maxHeartbeats 1000000
set_option maxRecDepth 10000
set_option linter.unusedVariables false
set_option linter.unusedSimpArgs false

def endsL : List (List UInt8) := [[], [41], [59], [84, 72, 69, 78], [93], [58, 61], [69, 78, 68], [46, 46]]
def endX (b : Nat) : List UInt8 := endsL.getD b []
theorem sz_tok : ∀ g : GT, g.sz ≤ g.tok.length
  | .z => Nat.le_refl _
  | .num _ => Nat.le_refl _
  | .str => Nat.le_refl _
  | .bin o a b => by have := sz_tok a; have := sz_tok b; simp only [GT.sz, GT.tok, List.length_cons, List.length_append]; omega
  | .un o a => by have := sz_tok a; simp only [GT.sz, GT.tok, List.length_cons, List.length_append]; omega
  | .idx a => by have := sz_tok a; simp only [GT.sz, GT.tok, List.length_cons, List.length_append]; omega
  | .call a b => by have := sz_tok a; have := sz_tok b; simp only [GT.sz, GT.tok, List.length_cons, List.length_append]; omega
  | .set a b => by have := sz_tok a; have := sz_tok b; simp only [GT.sz, GT.tok, List.length_cons, List.length_append]; omega
theorem row_sT (S : List UInt8) (h : (sT S).2 = 0) : (rowT S).map (·.1) = (sT S).1 := rowT_map S h
theorem ends_sT (b : Nat) (hb : b < 8) : (sT (endX b)).2 = 0 ∧ endB ((((sT (endX b)).1)[0]?).getD zTK.1) = true := by
  match b, hb with
  | 0, _ => exact ⟨rfl, rfl⟩
  | 1, _ => exact ⟨rfl, rfl⟩
  | 2, _ => exact ⟨rfl, rfl⟩
  | 3, _ => exact ⟨rfl, rfl⟩
  | 4, _ => exact ⟨rfl, rfl⟩
  | 5, _ => exact ⟨rfl, rfl⟩
  | 6, _ => exact ⟨rfl, rfl⟩
  | 7, _ => exact ⟨rfl, rfl⟩
  | n + 8, h => omega
theorem row_tree (g : GT) (hg : g.ok) : (rowT g.tx).length = g.tok.length := by
  have h := sT_tree g hg [] (.inl rfl)
  rw [List.append_nil] at h
  have e : (rowT g.tx).map (·.1) = (sT g.tx).1 := row_sT _ (by rw [h]; rfl)
  have := congrArg List.length e
  rw [List.length_map, h] at this
  rw [this]
  show (g.tok ++ (sT []).1).length = _
  rw [show (sT []).1 = [] from rfl, List.append_nil]
/-- A TREE THAT IS WRITTEN WITH ALL ITS PARENTHESES IS READ AS THAT TREE, WHATEVER STANDS BEHIND IT. -/
theorem back_tree (g : GT) (hg : g.ok) (b : Nat) (hb : b < 8) :
    ∃ d, exprM (rowT (g.tx ++ 32 :: endX b)) ((rowT (g.tx ++ 32 :: endX b)).length + 2) 0 = .ok d (rowT g.tx).length ∧ simD g.dt d := by
  obtain ⟨e1, e2⟩ := ends_sT b hb
  have h := sT_tree g hg (32 :: endX b) (.inr ⟨32, _, rfl, rfl⟩)
  rw [sT_space] at h
  have hm : (rowT (g.tx ++ 32 :: endX b)).map (·.1) = g.tok ++ (sT (endX b)).1 := by
    rw [row_sT _ (by rw [h]; exact e1), h]
  obtain ⟨us, hus⟩ : ∃ us, rowT (g.tx ++ 32 :: endX b) = us := ⟨_, rfl⟩
  rw [hus] at hm ⊢
  rw [row_tree g hg]
  have hl : g.tok.length ≤ us.length := by
    have := congrArg List.length hm
    rw [List.length_map, List.length_append] at this
    omega
  have hA : At us 0 g.tok := fun j t ht => by
    have hj := (List.getElem?_eq_some_iff.1 ht).1
    rw [Nat.zero_add, tk_map, hm, List.getElem?_append_left hj, ht]
    rfl
  have he : endB (tk us (0 + g.tok.length)).1 = true := by
    rw [Nat.zero_add, tk_map, hm, List.getElem?_append_right (Nat.le_refl _), Nat.sub_self]
    exact e2
  obtain ⟨d, h1, h2⟩ := (reads_tree us g hg).expr hA he (m := us.length + 1) (by have := sz_tok g; omega)
  rw [Nat.zero_add] at h1
  exact ⟨d, h1, h2⟩
/-- How many bytes a text has. -/
def GT.big (n : Nat) (g : GT) : Prop := g.tx.length ≤ 20 * n + 1
/-- A tree out of seeds, and how many were used. -/
def grow : Nat → List (Nat × Nat) → GT × Nat
  | 0, _ => (.z, 0)
  | _ + 1, [] => (.z, 0)
  | k + 1, (d, n) :: r =>
    if d % 9 < 3 then (.bin (n % 15) (grow k r).1 (grow k (r.drop (grow k r).2)).1, 1 + (grow k r).2 + (grow k (r.drop (grow k r).2)).2)
    else if d % 9 = 3 then (.un (n % 3) (grow k r).1, 1 + (grow k r).2)
    else if d % 9 = 4 then (.num n, 1)
    else if d % 9 = 5 then (.idx (grow k r).1, 1 + (grow k r).2)
    else if d % 9 = 6 then (.call (grow k r).1 (grow k (r.drop (grow k r).2)).1, 1 + (grow k r).2 + (grow k (r.drop (grow k r).2)).2)
    else if d % 9 = 7 then (.set (grow k r).1 (grow k (r.drop (grow k r).2)).1, 1 + (grow k r).2 + (grow k (r.drop (grow k r).2)).2)
    else (.str, 1)
theorem grow_used : ∀ (k : Nat) (l : List (Nat × Nat)), (grow k l).2 ≤ l.length
  | 0, _ => Nat.zero_le _
  | _ + 1, [] => Nat.zero_le _
  | k + 1, (d, n) :: r => by
    have h1 := grow_used k r
    have h2 := grow_used k (r.drop (grow k r).2)
    rw [List.length_drop] at h2
    unfold grow
    simp only [List.length_cons]
    split
    · show 1 + _ + _ ≤ _; omega
    split
    · show 1 + _ ≤ _; omega
    split
    · show 1 ≤ _; omega
    split
    · show 1 + _ ≤ _; omega
    split
    · show 1 + _ + _ ≤ _; omega
    split
    · show 1 + _ + _ ≤ _; omega
    · show 1 ≤ _; omega
theorem op_len3 (o : Nat) (ho : o < 15) : (opB o).length ≤ 3 := by
  match o, ho with
  | 0, _ => decide
  | 1, _ => decide
  | 2, _ => decide
  | 3, _ => decide
  | 4, _ => decide
  | 5, _ => decide
  | 6, _ => decide
  | 7, _ => decide
  | 8, _ => decide
  | 9, _ => decide
  | 10, _ => decide
  | 11, _ => decide
  | 12, _ => decide
  | 13, _ => decide
  | 14, _ => decide
theorem un_len3 (o : Nat) (ho : o < 3) : (unB o).length ≤ 3 := by
  match o, ho with
  | 0, _ => decide
  | 1, _ => decide
  | 2, _ => decide
theorem grow_ok : ∀ (k : Nat) (l : List (Nat × Nat)), (∀ x ∈ l, x.2 ≤ 65535) → (grow k l).1.ok ∧ (grow k l).1.tx.length ≤ 20 * (grow k l).2 + 1
  | 0, _, _ => ⟨trivial, Nat.le_refl 1⟩
  | _ + 1, [], _ => ⟨trivial, Nat.le_refl 1⟩
  | k + 1, (d, n) :: r, h => by
    have hr : ∀ x ∈ r, x.2 ≤ 65535 := fun x hx => h x (List.mem_cons_of_mem _ hx)
    have hn : n ≤ 65535 := h (d, n) (by simp)
    obtain ⟨a1, a2⟩ := grow_ok k r hr
    obtain ⟨b1, b2⟩ := grow_ok k (r.drop (grow k r).2) (fun x hx => hr x (List.mem_of_mem_drop hx))
    unfold grow
    split
    · have := op_len3 (n % 15) (Nat.mod_lt _ (by decide))
      refine ⟨⟨Nat.mod_lt _ (by decide), a1, b1⟩, ?_⟩
      simp only [GT.tx, List.length_cons, List.length_append, List.length_nil]
      omega
    split
    · have := un_len3 (n % 3) (Nat.mod_lt _ (by decide))
      refine ⟨⟨Nat.mod_lt _ (by decide), a1⟩, ?_⟩
      simp only [GT.tx, List.length_cons, List.length_append, List.length_nil]
      omega
    split
    · refine ⟨hn, ?_⟩
      have := dec_short10 19 n (by omega)
      simp only [GT.tx]
      omega
    split
    · refine ⟨a1, ?_⟩
      simp only [GT.tx, List.length_cons, List.length_append, List.length_nil]
      omega
    split
    · refine ⟨⟨a1, b1⟩, ?_⟩
      simp only [GT.tx, List.length_cons, List.length_append, List.length_nil]
      omega
    split
    · refine ⟨⟨a1, b1⟩, ?_⟩
      simp only [GT.tx, List.length_cons, List.length_append, List.length_nil]
      omega
    · exact ⟨trivial, by decide⟩
end Go.Proofs.Ytnaihncmichfaaa
