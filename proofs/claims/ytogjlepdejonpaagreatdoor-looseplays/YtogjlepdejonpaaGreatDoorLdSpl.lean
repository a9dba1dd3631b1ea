/- Pressed bytes, whatever they are, spread: plain readings, the program's and the document's. -/
import Derived.Test.YtogjlepdejonpaaGreatDoorLdSpreadw
namespace Go.Proofs.YtogjlepdejonpaaGreatDoor.Ld
open Cb
namespace Lz
def nm (most:Int) (L:List UInt8):Nat × List UInt8 × Nat :=
 if (Cd.unnum L).2.2≠0 then (0,L,(Cd.unnum L).2.2) else if most < ((Cd.unnum L).1:Int) then (0,L,6) else ((Cd.unnum L).1,L.drop (Cd.unnum L).2.1,0)
theorem nm_ok {most:Int} {L R:List UInt8} {n:Nat} (h:nm most L=(n,R,0)):(n:Int)≤most∧(Cd.unnum L).2.2=0∧(Cd.unnum L).1=n∧R=L.drop (Cd.unnum L).2.1:=by
 unfold nm at h
 by_cases h1:(Cd.unnum L).2.2=0
 ·rw [if_neg (by simpa using h1)] at h
  by_cases h2:most < ((Cd.unnum L).1:Int)
  ·rw [if_pos h2] at h
   simp at h
  ·rw [if_neg h2] at h
   simp only [Prod.mk.injEq,and_true] at h
   obtain ⟨rfl,rfl⟩:=h
   exact ⟨by omega,h1,rfl,rfl⟩
 ·rw [if_pos h1] at h
  simp only [Prod.mk.injEq] at h
  exact absurd h.2.2 h1
theorem nm_mk {most:Int} {L:List UInt8} {n:Nat} (h1:(Cd.unnum L).2.2=0) (h2:(Cd.unnum L).1=n) (h3:(n:Int)≤most):nm most L=(n,L.drop (Cd.unnum L).2.1,0):=by
 unfold nm
 rw [if_neg (by simpa using h1),h2,if_neg (by omega)]
theorem nm_len (most:Int) (L:List UInt8):(nm most L).2.1.length≤L.length:=by
 unfold nm
 split
 ·exact Nat.le_refl _
 ·split
  ·exact Nat.le_refl _
  ·simp
def alo (left:Nat) (T L:List UInt8):Nat × List UInt8 × List UInt8 :=
 if (nm left L).2.2≠0 then ((nm left L).2.2,T,L) else if (nm left L).2.1.length < (nm left L).1 then (4,T,L) else (0,T ++ (nm left L).2.1.take (nm left L).1,(nm left L).2.1.drop (nm left L).1)
def rep (b:Nat):Nat→List UInt8→List UInt8
 | 0,T=>T
 | k + 1,T=>rep b k T ++ [(rep b k T).getD ((rep b k T).length - b) 0]
theorem rep_len (b k:Nat) (T:List UInt8):(rep b k T).length=T.length + k:=by
 induction k with
 | zero=>rfl
 | succ k ih=>rw [rep,List.length_append,ih];simp;omega
def nq (L:List UInt8):Nat × List UInt8 × Nat:=((Cd.unnum L).1,L.drop (Cd.unnum L).2.1,(Cd.unnum L).2.2)
def aga (left:Nat) (T L:List UInt8):Nat × List UInt8 × List UInt8 :=
 if (nq L).2.2≠0 then ((nq L).2.2,T,L) else if (nq (nq L).2.1).2.2≠0 then ((nq (nq L).2.1).2.2,T,L)
 else if (nq L).1=0∨32768 < (nq L).1∨T.length < (nq L).1 then (6,T,L)
 else if left < (nq (nq L).2.1).1 + 4 then (6,T,L)
 else (0,rep (nq L).1 ((nq (nq L).2.1).1 + 4) T,(nq (nq L).2.1).2.1)
def fin (T L:List UInt8):Nat × List UInt8:=if L=[] then (0,T) else (5,[])
def spF (ag:Nat→List UInt8→List UInt8→Nat × List UInt8 × List UInt8) (size:Nat):Nat→List UInt8→List UInt8→Nat × List UInt8
 | 0,_,_=>(6,[])
 | f + 1,T,L =>
  if T.length < size then
   (if (alo (size - T.length) T L).1≠0 then ((alo (size - T.length) T L).1,[])
       else if (alo (size - T.length) T L).2.1.length=size then fin (alo (size - T.length) T L).2.1 (alo (size - T.length) T L).2.2
       else if (ag (size - (alo (size - T.length) T L).2.1.length) (alo (size - T.length) T L).2.1 (alo (size - T.length) T L).2.2).1≠0 then ((ag (size - (alo (size - T.length) T L).2.1.length) (alo (size - T.length) T L).2.1 (alo (size - T.length) T L).2.2).1,[])
       else spF ag size f (ag (size - (alo (size - T.length) T L).2.1.length) (alo (size - T.length) T L).2.1 (alo (size - T.length) T L).2.2).2.1 (ag (size - (alo (size - T.length) T L).2.1.length) (alo (size - T.length) T L).2.1 (alo (size - T.length) T L).2.2).2.2)
  else fin T L
def spA (ag:Nat→List UInt8→List UInt8→Nat × List UInt8 × List UInt8) (p:List UInt8) (most:Int):Nat × List UInt8 :=
 if (nm 1048576 p).2.2≠0 then ((nm 1048576 p).2.2,[]) else if most < ((nm 1048576 p).1:Int) then (3,[]) else spF ag (nm 1048576 p).1 ((nm 1048576 p).1 + 1) [] (nm 1048576 p).2.1
def spP (p:List UInt8) (most:Int):Nat × List UInt8:=spA aga p most
theorem nm_nq {most:Int} {L R:List UInt8} {n:Nat} (h:nm most L=(n,R,0)):nq L=(n,R,0)∧(n:Int)≤most:=by
 obtain ⟨h1,h2,h3,h4⟩:=nm_ok h
 exact ⟨by unfold nq;rw [h2,h3,h4],h1⟩
end Lz
end Go.Proofs.YtogjlepdejonpaaGreatDoor.Ld
