/- Several texts in one. -/
import Derived.Test.YtepfknfadpkigaaGreatPkAA
import Derived.Test.YtepfknfadpkigaaGreatPkAE
set_option linter.unusedVariables false
set_option linter.unusedSimpArgs false
section
namespace Go.Proofs.YtepfknfadpkigaaGreat
open Go.RowKit
def isW (t:TK) (s:List UInt8):Bool:=t.1.k == 6&&t.1.x == s
theorem zCr {ts:List TK} {i:Nat} {s:List UInt8} (h:isW (tk ts i) s=true):i < ts.length:=by
 rcases Nat.lt_or_ge i ts.length with h1 | h1
 ·exact h1
 ·rw [zCz h1] at h
  simp [isW,zTK] at h
theorem Fr.on {N:List Nat} {a b c:World} (h1:Fr N a b) (h2:Fr N b c):Fr N a c:=h1.trans h2 (fun j hj=>.inl hj)
theorem Fr.on0 {N:List Nat} {a b c:World} (h1:Fr N a b) (h2:Fr [] b c):Fr N a c:=h1.trans h2 (by simp)
theorem Fr.up0 {N:List Nat} {a b:World} (h1:Fr [] a b):Fr N a b:=h1.mono (by simp)
theorem zAk {C:Nat} {w w':World} {N:List Nat} {u:Tr} (h:IsT w (C≤·) u) (F:Fr N w w') (hN:∀j ∈ N,j < C):IsT w' (C≤·) u :=
 h.keep (fun _ h _=>h) (fun j hj hl=>F.block j hl (fun hm=>by have:=hN j hm;omega))
theorem zAt {C C':Nat} {w:World} {u:Tr} (h:IsT w (C≤·) u) (hC:C'≤C):IsT w (C'≤·) u:=h.keep (fun j hj _=>Nat.le_trans hC hj) (fun _ _ _=>rfl)
theorem zAx (o:Option Nat):∃a:Option Addr,encP o=.pointer a:=by cases o <;> exact⟨_,rfl⟩
end Go.Proofs.YtepfknfadpkigaaGreat
end
