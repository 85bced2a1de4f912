/- Layer 4: what Scan answers; the rest of a source behind so many bytes. -/
import Derived.Test.YtggembknccbpnaaGreatLyN
import Derived.Deep.DeepCutAuto
import Derived.Deep.RegionWith
import Derived.Deep.RegionHeld3
import Derived.Deep.AppendLies
import Derived.Deep.Onto
namespace Go.Proofs.YtggembknccbpnaaGreat
open Go.RowKit
set_option maxHeartbeats 1000000
set_option maxRecDepth 100000
set_option linter.unusedVariables false

def endT (S : List UInt8) (off : Nat) : TK := (⟨0, [], 0⟩, goB 1 1 (S.take off), goB 1 1 (S.take off))
theorem bl_cases (c : UInt8) (h : isBl c = true) : (((c.toNat : Int) == 9) = true) ∨ (((c.toNat : Int) == 9) = false ∧ ((c.toNat : Int) == 10) = true) ∨ (((c.toNat : Int) == 9) = false ∧ ((c.toNat : Int) == 10) = false ∧ ((c.toNat : Int) == 13) = true) ∨ (((c.toNat : Int) == 9) = false ∧ ((c.toNat : Int) == 10) = false ∧ ((c.toNat : Int) == 13) = false ∧ ((c.toNat : Int) == 32) = true) := by
  unfold isBl at h
  simp only [Bool.or_eq_true, beq_iff_eq] at h
  rcases h with ((rfl | rfl) | rfl) | rfl
  · exact .inl rfl
  · exact .inr (.inl ⟨rfl, rfl⟩)
  · exact .inr (.inr (.inl ⟨rfl, rfl, rfl⟩))
  · exact .inr (.inr (.inr ⟨rfl, rfl, rfl, rfl⟩))
theorem bl_none (c : UInt8) (h : isBl c = false) : ((c.toNat : Int) == 9) = false ∧ ((c.toNat : Int) == 10) = false ∧ ((c.toNat : Int) == 13) = false ∧ ((c.toNat : Int) == 32) = false := by
  unfold isBl at h
  simp only [Bool.or_eq_false_iff, beq_eq_false_iff_ne] at h
  obtain ⟨⟨⟨h1, h2⟩, h3⟩, h4⟩ := h
  exact ⟨byte_no c 9 h1, byte_no c 10 h2, byte_no c 13 h3, byte_no c 32 h4⟩
/-- The rest of a source behind so many bytes. -/
theorem rest_next (S : List UInt8) (sr : ByteArray) (off m : Nat) (h : sr.data.toList = S.drop off) (hm : m ≤ sr.size) (hle : off ≤ S.length) : off + m ≤ S.length ∧ (sr.extract m sr.size).data.toList = S.drop (off + m) ∧ (sr.extract 0 m).data.toList = (S.drop off).take m ∧ (sr.extract 0 m).size ≤ sr.size ∧ (sr.extract m sr.size).size + m = sr.size := by
  have hl := bytes_of sr
  rw [h, List.length_drop] at hl
  have e1 : (sr.extract m sr.size).data.toList = S.drop (off + m) := by
    rw [ByteArray.data_extract, Array.toList_extract, List.extract_eq_take_drop, h, List.drop_drop, List.take_of_length_le]
    rw [List.length_drop]; omega
  have e2 : (sr.extract 0 m).data.toList = (S.drop off).take m := by rw [extract_take' sr m hm, h]
  refine ⟨by omega, e1, e2, ?_, ?_⟩
  · rw [← bytes_of, e2, List.length_take]; omega
  · rw [← bytes_of, e1, List.length_drop]; omega
theorem OwnT.mono {w : World} {B B' : Nat} {v : Value} {l : List TK} (h : OwnT w B v l) (hb : B' ≤ B) : OwnT w B' v l := World.ownsRow.mono h hb
theorem news5 (w : World) (a b c d e : Value) (T : TypeId) : ∀ j u, [a, b, c, d, e][j]? = some u → (w.alloc (.cells #[a, b, c, d, e] T)).cell? ((⟨w.heap.size, 0, none⟩ : Addr).add j) = some u := by
  intro j u hj
  match j, hj with
  | 0, hj => simp at hj; subst hj; simp [Addr.add]
  | 1, hj => simp at hj; subst hj; simp [Addr.add]
  | 2, hj => simp at hj; subst hj; simp [Addr.add]
  | 3, hj => simp at hj; subst hj; simp [Addr.add]
  | 4, hj => simp at hj; subst hj; simp [Addr.add]
theorem one5 (a b c d e : Value) (h1 : a.oneCell' = true) (h2 : b.oneCell' = true) (h3 : c.oneCell' = true) (h4 : d.oneCell' = true) (h5 : e.oneCell' = true) : ∀ u ∈ [a, b, c, d, e], u.oneCell' = true := by
  intro u hu
  simp at hu
  rcases hu with rfl | rfl | rfl | rfl | rfl <;> assumption
/-- What Scan answers. -/
def ScanPost (S : List UInt8) (w : World) (e : Ending) (w' : World) : Prop :=
  ∃ v at', e = .returned (.tuple #[v, at', .int .i64 (scanS 0 S).2.2]) ∧ Below w.heap.size w w' ∧
    (((scanS 0 S).2.2 = 0 ∧ at' = .complex .f64 0 0 ∧ OwnT w' w.heap.size v ((scanS 0 S).1.map (plOf S) ++ [endT S (scanS 0 S).2.1])) ∨ ((scanS 0 S).2.2 ≠ 0 ∧ v = .slice none 0 0 ∧ at' = posV (goB 1 1 (S.take (scanS 0 S).2.1)).1 (goB 1 1 (S.take (scanS 0 S).2.1)).2))
theorem scan_post_err (S : List UInt8) (w w' : World) (off : Nat) (e : Int) (he : e ≠ 0) (h : (scanS 0 S).2 = (off, e)) (px py : Int) (hp : goB 1 1 (S.take off) = (px, py)) (hb : Below w.heap.size w w') : ScanPost S w (.returned (.tuple #[.slice none 0 0, posV px py, .int .i64 e])) w' := by
  exact ⟨.slice none 0 0, posV px py, by rw [h], hb, .inr ⟨by rw [h]; exact he, rfl, by rw [h, hp]⟩⟩
/-- What the numbers and texts of tokens may be. -/
def txtOk (t : T0) : Prop := 0 ≤ t.n ∧ t.n ≤ 65535 ∧ t.x.length ≤ 65536
theorem bcat_end (l : List UInt8) (c : UInt8) : (⟨l.toArray⟩ : ByteArray) ++ ⟨#[c]⟩ = ⟨(l ++ [c]).toArray⟩ := by
  apply ByteArray.ext; simp
/-- One token more, as Join writes it. -/
def jn (acc : List UInt8) (t : T0) : List UInt8 := if t.k = 0 then acc else if acc = [] then txtT t else acc ++ 32 :: txtT t
theorem flat_at (l : List TK) : ∀ (i r : Nat) (x : TK), l[i]? = some x → r < 5 → (l.flatMap tkCells)[i * 5 + r]? = (tkCells x)[r]? := by
  induction l with
  | nil => intro i r x h; simp at h
  | cons y l ih =>
    intro i r x h hr
    rw [List.flatMap_cons]
    cases i with
    | zero =>
      have e : y = x := by simpa using h
      subst e
      rw [Nat.zero_mul, Nat.zero_add, List.getElem?_append_left (by show r < 5; exact hr)]
    | succ i =>
      rw [List.getElem?_append_right (by show 5 ≤ _; omega)]
      have e : (i + 1) * 5 + r - (tkCells y).length = i * 5 + r := by show (i + 1) * 5 + r - 5 = _; omega
      rw [e]
      exact ih i r x (by simpa using h) hr
/-- The five cells of a token in a list. -/
theorem OwnT.at {w : World} {B : Nat} {v : Value} {l : List TK} (h : OwnT w B v l) (i : Nat) (x : TK) (hx : l[i]? = some x) : ∃ g cap, v = .slice (some ⟨g, 0, none⟩) l.length cap ∧ B ≤ g ∧ g < w.heap.size ∧
    w.cell? ⟨g, i * 5, none⟩ = some (.int .u8 x.1.k) ∧ w.cell? ⟨g, i * 5 + 1, none⟩ = some (posV x.2.1.1 x.2.1.2) ∧ w.cell? ⟨g, i * 5 + 2, none⟩ = some (posV x.2.2.1 x.2.2.2) ∧ w.cell? ⟨g, i * 5 + 3, none⟩ = some (.string ⟨x.1.x.toArray⟩) ∧ w.cell? ⟨g, i * 5 + 4, none⟩ = some (.int .i64 x.1.n) := by
  have hlt : i < l.length := by
    rcases Nat.lt_or_ge i l.length with q | q
    · exact q
    · rw [List.getElem?_eq_none q] at hx; cases hx
  obtain ⟨g, cap, rfl, hb, hg⟩ := World.ownsRow.form h (by omega)
  have ha := fun j hj => World.ownsRow.cellAt h j hj
  have hf := fun r hr => flat_at l i r x hx hr
  refine ⟨g, cap, rfl, hb, hg, ?_, ?_, ?_, ?_, ?_⟩
  · rw [ha (i * 5) (by omega), show i * 5 = i * 5 + 0 from rfl, hf 0 (by omega)]; rfl
  · rw [ha _ (by omega), hf 1 (by omega)]; rfl
  · rw [ha _ (by omega), hf 2 (by omega)]; rfl
  · rw [ha _ (by omega), hf 3 (by omega)]; rfl
  · rw [ha _ (by omega), hf 4 (by omega)]; rfl
/-- Tokens as Join takes them: such as may be. -/
def allOk (l : List TK) : Prop := ∀ x ∈ l, txtOk x.1 ∧ (x.1.k ≠ 0 → txtT x.1 ≠ [])
theorem txt_len (t : T0) (h : txtOk t) : (txtT t).length ≤ 65542 := by
  obtain ⟨h0, h1, h2⟩ := h
  unfold txtT
  split
  · have := dec_short10 4 t.n.toNat (by omega); omega
  · split
    · have := oct_short8 5 t.n.toNat (by omega); simp; omega
    · split
      · split <;> (simp; omega)
      · omega
theorem jn_len (acc : List UInt8) (t : T0) (h : txtOk t) : (jn acc t).length ≤ acc.length + 65543 := by
  have := txt_len t h
  unfold jn
  split
  · omega
  · split
    · omega
    · simp; omega
theorem stp_blank (u : List UInt8) (h : isBl (u.headD 0) = true) : stp u = (none, 1, 0) := by unfold stp; rw [if_pos h]
end Go.Proofs.YtggembknccbpnaaGreat
