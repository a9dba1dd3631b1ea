/- Objects' bytes: plain readings. A text cut at a byte, and a text's copy: the library's own, laid in plain words. Raw, ID and Open, walked. Open and ID, walked; the waking test; the document's Raw and ID. The document's bytes of an object, walked. The document's id, walked. Names and runes: plain readings of a text's bytes. Small facts on texts, letters and worlds that the walks of this seat share. Which texts may be names, as the program says it, walked. How many runes a text has, and which texts may be refs' names, as the program says it, walked. How many runes a text has, and which texts may be refs' names, as the program says it, walked. Which texts may be refs' names, as the document's copy says it, and as the program does, walked. The document's own way to tell runes, walked. How many runes a text has, as the document's copy says it, walked. Lines of a body: plain readings. Lines of a body, walked: one made, one taken; ids and texts that may be. Ids and texts taken from a body; tags checked and made, walked. Trees: plain readings of entries and of their bytes. Authors and commits: plain readings. Rows of texts in memory; a commit's parents and its author, walked. Commits: plain readings; checked, walked. A commit's body, walked. A commit of a body, walked: the next word, a number, the parents' lines. A commit of a body, walked. Tags checked and made, walked. A tag of a body, walked. Trees: the word of a mode, the mode of a word, an entry that may be, and entries in memory. Trees: which entries may be one, walked; entries in memory. Trees: the first entry of bytes, walked. Trees: the tree of bytes, walked. Links: plain, and rows of them in memory. The links of a tag, a commit, a tree, walked. Links, walked. -/
import Derived.Test.YtogjlepdejonpaaGreatDoorCbDigp
import Derived.Test.YtogjlepdejonpaaGreatDoorShelf
import Derived.WalkKit
import Derived.BigRegion
import Derived.Deep.QuietTactic
import Derived.OwnWalk
import Derived.Test.YtogjlepdejonpaaGreatDoorCbUndw
import Derived.Test.YtogjlepdejonpaaGreatDoorSaAll
import Derived.Lib.DecodeN
import Derived.Laws.RangeAny
import Derived.Test.YtogjlepdejonpaaGreatDoorProg
import Derived.BigQuiet
import Derived.Deep.RegionHeld3
import Derived.Test.YtogjlepdejonpaaGreatDoorCbUnhexw
import Derived.Lib.SplitLaws
import Derived.Lib.ReplaceLaws
import Derived.Deep.RegionLaw
import Derived.Laws.Cover1
import Derived.ArgAppend
namespace Go.Proofs.YtogjlepdejonpaaGreatDoor
namespace Ob
open Go.RowKit
theorem hideIt {p:Prop} (h:p):Hid p:=h
def bs (l:List UInt8):ByteArray:=⟨l.toArray⟩
theorem bs_data (s:ByteArray):bs s.data.toList=s:=by cases s;simp [bs]
theorem bs_list (l:List UInt8):(bs l).data.toList=l:=by simp [bs]
theorem bs_size (l:List UInt8):(bs l).size=l.length:=by simp [bs,ByteArray.size]
theorem str_len (s:ByteArray):s.data.toList.length=s.size:=by rw [Array.length_toList];rfl
theorem cat_data (a b:ByteArray):(a ++ b).data.toList=a.data.toList ++ b.data.toList:=by rw [ByteArray.data_append,Array.toList_append]
theorem bs_append (a b:List UInt8):bs a ++ bs b=bs (a ++ b):=by
 rw [← bs_data (bs a ++ bs b),cat_data,bs_list,bs_list]
theorem below_step {B:Nat} {w a b:World} (h:Below B w a) (hB:B≤w.heap.size) (k:Below a.heap.size a b):Below B w b:=h.trans (k.mono (Nat.le_trans hB h.size))
theorem below2 {w a b:World} (h:Below w.heap.size w a) (k:Below a.heap.size a b):Below w.heap.size w b:=below_step h (Nat.le_refl _) k
def blobW:List UInt8:=[98,108,111,98]
def treeW:List UInt8:=[116,114,101,101]
def commitW:List UInt8:=[99,111,109,109,105,116]
def tagW:List UInt8:=[116,97,103]
def kw (k:Int):List UInt8:=if k=1 then blobW else if k=2 then treeW else if k=3 then commitW else if k=4 then tagW else []
def kn (w:List UInt8):Int:=if w=blobW then 1 else if w=treeW then 2 else if w=commitW then 3 else if w=tagW then 4 else 0
theorem kind_cases (k:Int):k=1∨k=2∨k=3∨k=4∨(k≠1∧k≠2∧k≠3∧k≠4):=by omega
theorem kw_none {k:Int} (h:k≠1∧k≠2∧k≠3∧k≠4):kw k=[]:=by
 rw [kw,if_neg h.1,if_neg h.2.1,if_neg h.2.2.1,if_neg h.2.2.2]
theorem kw_len (k:Int):(kw k).length≤6:=by
 rcases kind_cases k with rfl | rfl | rfl | rfl | h
 ·decide
 ·decide
 ·decide
 ·decide
 ·rw [kw_none h];decide
theorem kn_kw (k:Int) (h:1≤k∧k≤4):kn (kw k)=k:=by
 rcases kind_cases k with rfl | rfl | rfl | rfl | h'
 ·decide
 ·decide
 ·decide
 ·decide
 ·omega
theorem kw_no0 (k:Int):(0:UInt8) ∉ kw k:=by
 rcases kind_cases k with rfl | rfl | rfl | rfl | h'
 ·decide
 ·decide
 ·decide
 ·decide
 ·rw [kw_none h'];decide
theorem kw_no32 (k:Int):(32:UInt8) ∉ kw k:=by
 rcases kind_cases k with rfl | rfl | rfl | rfl | h'
 ·decide
 ·decide
 ·decide
 ·decide
 ·rw [kw_none h'];decide
def cutc (c:UInt8):List UInt8→Option (List UInt8 × List UInt8)
 | []=>none
 | x :: r=>if x=c then some ([],r) else (cutc c r).map fun p=>(x :: p.1,p.2)
theorem cutc_none (c:UInt8):∀ s,cutc c s=none↔c ∉ s
 | []=>by simp [cutc]
 | x :: r=>by
  rw [cutc]
  by_cases h:x=c
  ·simp [h]
  ·rw [if_neg h,Option.map_eq_none_iff,cutc_none c r]
   simp only [List.mem_cons,not_or]
   exact ⟨fun e=>⟨fun q=>h q.symm,e⟩,fun e=>e.2⟩
theorem cutc_some (c:UInt8):∀ (s h r:List UInt8),cutc c s=some (h,r)→s=h ++ c :: r∧c ∉ h
 | [],h,r,e=>by simp [cutc] at e
 | x :: t,h,r,e=>by
  rw [cutc] at e
  by_cases hx:x=c
  ·rw [if_pos hx] at e
   simp only [Option.some.injEq,Prod.mk.injEq] at e
   obtain ⟨rfl,rfl⟩:=e
   exact ⟨by rw [hx];rfl,by simp⟩
  ·rw [if_neg hx,Option.map_eq_some_iff] at e
   obtain ⟨⟨a,b⟩,e1,e2⟩:=e
   simp only [Prod.mk.injEq] at e2
   obtain ⟨rfl,rfl⟩:=e2
   obtain ⟨h1,h2⟩:=cutc_some c t a b e1
   refine ⟨by rw [h1];rfl,?_⟩
   simp only [List.mem_cons,not_or]
   exact ⟨fun q=>hx q.symm,h2⟩
theorem cutc_mk (c:UInt8):∀ (h r:List UInt8),c ∉ h→cutc c (h ++ c :: r)=some (h,r)
 | [],r,_=>by simp [cutc]
 | x :: t,r,hn=>by
  have hx:¬ x=c:=fun e=>hn (by simp [e])
  rw [List.cons_append,cutc,if_neg hx,cutc_mk c t r (fun e=>hn (by simp [e]))]
  rfl
def rawL (k:Int) (b:List UInt8):List UInt8:=kw k ++ 32 :: (Lib.decDigits b.length ++ 0 :: b)
def opn3 (k:Int) (body:List UInt8):Option Nat→Int × List UInt8 × Int
 | none=>(0,[],6)
 | some n=>if 262144 < n then (0,[],3) else if body.length < n then (0,[],4) else if n < body.length then (0,[],5) else (k,body,0)
def opn (L:List UInt8):Int × List UInt8 × Int:=match cutc 0 L with
 | none=>(0,[],6)
 | some (h,body)=>match cutc 32 h with
  | none=>(0,[],6)
  | some (wd,d)=>if kn wd=0 then (0,[],70) else opn3 (kn wd) body (Cb.Dd.und d)
theorem dec_no (c:UInt8) (hc:c.toNat < 48) (n:Nat):c ∉ Lib.decDigits n:=fun h=>by
 have:=Cb.Dd.dec_all n c h
 unfold Cb.Dd.isD at this
 omega
theorem opn_raw (k:Int) (h:1≤k∧k≤4) (b:List UInt8) (hb:b.length≤1000000):opn (rawL k b)=if 262144 < b.length then (0,[],3) else (k,b,0):=by
 have e:rawL k b=(kw k ++ 32 :: Lib.decDigits b.length) ++ 0 :: b:=by simp [rawL]
 have n0:(0:UInt8) ∉ kw k ++ 32 :: Lib.decDigits b.length:=by
  simp only [List.mem_append,List.mem_cons,not_or]
  exact ⟨kw_no0 k,by decide,dec_no 0 (by decide) _⟩
 have hk:¬ kn (kw k)=0:=by rw [kn_kw k h];omega
 rw [opn,e,cutc_mk 0 _ _ n0]
 simp only
 rw [cutc_mk 32 _ _ (kw_no32 k)]
 simp only
 rw [if_neg hk,Cb.Dd.und_dec _ (by unfold Cb.Dd.M;omega),opn3]
 by_cases hq:262144 < b.length
 ·rw [if_pos hq,if_pos hq]
 ·rw [if_neg hq,if_neg (by omega),if_neg (by omega),if_neg hq,kn_kw k h]
theorem nd_dec (n:Nat) (h:n≤1000000):(Lib.decDigits n).length≤20:=by
 by_cases h1:1≤n
 ·rw [Lib.decDigits_length]
  exact Cb.nd20 n h1 (by omega)
 ·obtain rfl:n=0:=by omega
  rw [Lib.decDigits_one (by omega)]
  simp
theorem raw_len (k:Int) (b:List UInt8) (h:b.length≤1000000):(rawL k b).length≤b.length + 28:=by
 have h1:=kw_len k
 have h2:=nd_dec b.length h
 simp [rawL]
 omega
theorem of_bs (b:ByteArray):∃ l,b=bs l:=⟨b.data.toList,(bs_data b).symm⟩
theorem rawS_eq (k:Int) (b:ByteArray):bs (rawL k b.data.toList)=bs (kw k) ++ ⟨#[32]⟩ ++ bs (Lib.decDigits b.size) ++ ⟨#[0]⟩ ++ b:=by
 obtain ⟨l,rfl⟩:=of_bs b
 rw [bs_list,bs_size,show (⟨#[32]⟩:ByteArray)=bs [32] from rfl,show (⟨#[0]⟩:ByteArray)=bs [0] from rfl,bs_append,bs_append,bs_append,bs_append,rawL]
 simp
theorem lit_eq (L K:List UInt8):((bs L).toList == K)=decide (L=K):=by
 rw [ByteArray.toList_eq,bs_list]
 by_cases h:L=K
 ·rw [h];simp
 ·rw [decide_eq_false h];simpa using h
end Ob
end Go.Proofs.YtogjlepdejonpaaGreatDoor
namespace Go.Proofs.YtogjlepdejonpaaGreatDoor
namespace Ob
open Go.RowKit Go.Shelf
def MaxAt (w:World):Prop:=∃ m,w.cell? ⟨0,0,none⟩=some (.int .i64 m)
theorem MaxAt.pos {w:World} (h:MaxAt w):0 < w.heap.size:=by
 obtain ⟨m,h⟩:=h
 by_cases hz:0 < w.heap.size
 ·exact hz
 ·have:w.heap[0]? = none:=Array.getElem?_eq_none (by omega)
  simp [World.cell?,this] at h
theorem MaxAt.keep {w w':World} (h:MaxAt w) (hb:w'.heap[0]? = w.heap[0]?):MaxAt w':=by
 obtain ⟨m,h⟩:=h
 exact ⟨m,by rw [World.cell?_of_block (w:=w) hb,h]⟩
theorem MaxAt.below {w w':World} (h:MaxAt w) (hb:Below w.heap.size w w'):MaxAt w':=h.keep (hb.block _ h.pos)
theorem new_below (w:World) (o:Obj):Below w.heap.size w (w.alloc o):=(Below.refl _ _).alloc (Nat.le_refl _) _
theorem below_drewN (w:World) (n:Nat):Below w.heap.size w (w.drewN n):=⟨rfl,rfl,rfl,Nat.le_refl _,fun _ _=>rfl⟩
theorem index_none (c:UInt8) (l:List UInt8) (h:c ∉ l):Lib.index l [c]=-1:=by
 induction l with
 | nil=>rfl
 | cons d r ih =>
  have hc:d≠c:=fun e=>h (by simp [e])
  have hr:=ih (fun e=>h (by simp [e]))
  rw [Lib.index,hr]
  have:([c]:List UInt8).isPrefixOf (d :: r)=false:=by simp [List.isPrefixOf];exact fun e=>hc e.symm
  simp [this]
theorem index_some (c:UInt8) (a r:List UInt8) (h:c ∉ a):Lib.index (a ++ c :: r) [c]=(a.length:Nat):=by
 induction a with
 | nil=>simp [Lib.index,List.isPrefixOf]
 | cons d a ih =>
  have hc:d≠c:=fun e=>h (by simp [e])
  have hr:=ih (fun e=>h (by simp [e]))
  rw [List.cons_append,Lib.index,hr]
  have:([c]:List UInt8).isPrefixOf (d :: (a ++ c :: r))=false:=by simp [List.isPrefixOf];exact fun e=>hc e.symm
  rw [this]
  have h2:((a.length:Nat):Int)≠-1:=by omega
  simp [h2]
theorem cut_none (c:UInt8) (l:List UInt8) (h:c ∉ l):Lib.cut l [c]=(l,[],false):=by
 rw [Lib.cut,index_none c l h]
 rfl
theorem cut_some (c:UInt8) (a r:List UInt8) (h:c ∉ a):Lib.cut (a ++ c :: r) [c]=(a,r,true):=by
 rw [Lib.cut,index_some c a r h,if_pos (by omega)]
 simp [List.drop_append]
theorem cut_at (c:UInt8) (l:List UInt8):c ∉ l∨∃ a r,l=a ++ c :: r∧c ∉ a:=by
 induction l with
 | nil=>exact .inl (by simp)
 | cons d l ih =>
  by_cases hc:d=c
  ·exact .inr ⟨[],l,by simp [hc],by simp⟩
  ·rcases ih with h | ⟨a,r,e,ha⟩
   ·exact .inl (by simp [h];exact fun e=>hc e.symm)
   ·exact .inr ⟨d :: a,r,by simp [e],by simp [ha];exact fun e=>hc e.symm⟩
theorem sCut_none (L:List UInt8) (c:UInt8) (hL:L.length≤1000000) (h:c ∉ L) (w:World) (hm:MaxAt w) :
  Calls Tryz.prog 129 #[.string (bs L),.string ⟨#[c]⟩] w fun e w'=>e=.returned (.tuple #[.string (bs L),.string ⟨#[]⟩,.bool false])∧Below w.heap.size w w':=by
 obtain ⟨m,hm⟩:=hm
 refine (Tryz.strings_Cut (bs L) ⟨#[c]⟩ m w (by rw [bs_size];omega) hm).mono ?_
 rintro e w' ⟨rfl,n,rfl⟩
 rw [bs_list,show (⟨#[c]⟩:ByteArray).data.toList=[c] from rfl,cut_none c L h]
 exact ⟨rfl,below_drewN _ _⟩
theorem sCut_some (a r:List UInt8) (c:UInt8) (hL:a.length + r.length < 1000000) (h:c ∉ a) (w:World) (hm:MaxAt w) :
  Calls Tryz.prog 129 #[.string (bs (a ++ c :: r)),.string ⟨#[c]⟩] w fun e w'=>e=.returned (.tuple #[.string (bs a),.string (bs r),.bool true])∧Below w.heap.size w w':=by
 obtain ⟨m,hm⟩:=hm
 refine (Tryz.strings_Cut (bs (a ++ c :: r)) ⟨#[c]⟩ m w (by rw [bs_size];simp;omega) hm).mono ?_
 rintro e w' ⟨rfl,n,rfl⟩
 rw [bs_list,show (⟨#[c]⟩:ByteArray).data.toList=[c] from rfl,cut_some c a r h]
 exact ⟨rfl,below_drewN _ _⟩
theorem clone_any (s:ByteArray) (w:World) (hs:s.size≤281474976710656):Calls Tryz.prog 46 #[.string s] w fun e w'=>e=.returned (.string s)∧Below w.heap.size w w':=by
 have H:=hideIt (fun w=>Tryz.stringslite_Clone s w hs)
 go_enter Tryz.func46,Tryz.ntmps46
 go_wp2_with (first | (go_at_call 94;refine (H.out _).mono ?_;rintro e w1 ⟨rfl,hb⟩))
 go_ret
 exact ⟨rfl,hb⟩
def cutV (c:UInt8) (L:List UInt8):Value:=match cutc c L with
 | none=>.tuple #[.string (bs L),.string ⟨#[]⟩,.bool false]
 | some (a,r)=>.tuple #[.string (bs a),.string (bs r),.bool true]
theorem sCut_any (L:List UInt8) (c:UInt8) (hL:L.length≤1000000) (w:World) (hm:MaxAt w) :
  Calls Tryz.prog 129 #[.string (bs L),.string ⟨#[c]⟩] w fun e w'=>e=.returned (cutV c L)∧Below w.heap.size w w':=by
 cases h:cutc c L with
 | none =>
  have e:cutV c L=.tuple #[.string (bs L),.string ⟨#[]⟩,.bool false]:=by rw [cutV,h]
  rw [e]
  exact sCut_none L c hL ((cutc_none c L).1 h) w hm
 | some p =>
  obtain ⟨a,r⟩:=p
  have e:cutV c L=.tuple #[.string (bs a),.string (bs r),.bool true]:=by rw [cutV,h]
  obtain ⟨rfl,hn⟩:=cutc_some c L a r h
  rw [e]
  exact sCut_some a r c (by simp at hL;omega) hn w hm
end Ob
end Go.Proofs.YtogjlepdejonpaaGreatDoor
namespace Go.Proofs.YtogjlepdejonpaaGreatDoor
namespace Ob
open Go.RowKit Go.Shelf
structure Ok (w:World):Prop where
 max:MaxAt w
 tab:Cb.Tab w
 errs:Cb.Errs w
 kat:Sa.KAt w
theorem Ok.below {w w':World} (h:Ok w) (hb:Below w.heap.size w w'):Ok w':=⟨h.max.below hb,Cb.tab_below hb h.tab,Cb.errs_below hb h.errs,Sa.K_below hb (Sa.K_pos h.kat) h.kat⟩
theorem undec_c (L:List UInt8) (w:World) (h:L.length≤1000000) (hk:Ok w) :
  Calls Tryz.prog 131 #[.string (bs L)] w fun e w'=>e=.returned (Cb.udV (Cb.Dd.und L))∧Below w.heap.size w w':=by
 have:=Cb.undec_any (bs L) w (by rw [bs_size];exact h) hk.tab hk.errs
 rw [bs_list] at this
 exact this
set_option maxHeartbeats 400000 in
theorem wordOf_any (k:Int) (w:World):Calls Tryz.prog 223 #[.int .i64 k] w fun e w'=>e=.returned (.string (bs (kw k)))∧w'=w:=by
 rcases kind_cases k with rfl | rfl | rfl | rfl | h
 ·go_enter Tryz.func223,Tryz.ntmps223
  go_wp2
  go_ret
  exact ⟨rfl,rfl⟩
 ·go_enter Tryz.func223,Tryz.ntmps223
  go_wp2
  go_ret
  exact ⟨rfl,rfl⟩
 ·go_enter Tryz.func223,Tryz.ntmps223
  go_wp2
  go_ret
  exact ⟨rfl,rfl⟩
 ·go_enter Tryz.func223,Tryz.ntmps223
  go_wp2
  go_ret
  exact ⟨rfl,rfl⟩
 ·have HK:=hideIt (kw_none h)
  obtain ⟨h1,h2,h3,h4⟩:=h
  go_enter Tryz.func223,Tryz.ntmps223
  go_wp2
  go_ret
  exact ⟨by rw [HK.out];rfl,rfl⟩
theorem kn_cases (L:List UInt8):(L=blobW∧kn L=1)∨(L=treeW∧kn L=2)∨(L=commitW∧kn L=3)∨(L=tagW∧kn L=4)∨(L≠blobW∧L≠treeW∧L≠commitW∧L≠tagW∧kn L=0):=by
 by_cases h1:L=blobW
 ·exact .inl ⟨h1,by rw [h1];rfl⟩
 by_cases h2:L=treeW
 ·exact .inr (.inl ⟨h2,by rw [h2];rfl⟩)
 by_cases h3:L=commitW
 ·exact .inr (.inr (.inl ⟨h3,by rw [h3];rfl⟩))
 by_cases h4:L=tagW
 ·exact .inr (.inr (.inr (.inl ⟨h4,by rw [h4];rfl⟩)))
 ·exact .inr (.inr (.inr (.inr ⟨h1,h2,h3,h4,by rw [kn,if_neg h1,if_neg h2,if_neg h3,if_neg h4]⟩)))
set_option maxHeartbeats 400000 in
theorem kindOf_any (L:List UInt8) (w:World):Calls Tryz.prog 130 #[.string (bs L)] w fun e w'=>e=.returned (.int .i64 (kn L))∧w'=w:=by
 have n1:=lit_eq L [98,108,111,98]
 have n2:=lit_eq L [116,114,101,101]
 have n3:=lit_eq L [99,111,109,109,105,116]
 have n4:=lit_eq L [116,97,103]
 obtain ⟨s,hs⟩:∃ s,bs L=s:=⟨_,rfl⟩
 rw [hs] at n1 n2 n3 n4 ⊢
 rcases kn_cases L with ⟨h,hk⟩ | ⟨h,hk⟩ | ⟨h,hk⟩ | ⟨h,hk⟩ | ⟨h1,h2,h3,h4,hk⟩
 ·have HK:=hideIt hk
  have m1:_=true:=n1.trans (by rw [h];rfl)
  have m2:_=false:=n2.trans (by rw [h];rfl)
  have m3:_=false:=n3.trans (by rw [h];rfl)
  have m4:_=false:=n4.trans (by rw [h];rfl)
  clear h hk hs n1 n2 n3 n4
  go_enter Tryz.func130,Tryz.ntmps130
  go_wp2
  go_ret
  exact ⟨by rw [HK.out] <;> rfl,rfl⟩
 ·have HK:=hideIt hk
  have m1:_=false:=n1.trans (by rw [h];rfl)
  have m2:_=true:=n2.trans (by rw [h];rfl)
  have m3:_=false:=n3.trans (by rw [h];rfl)
  have m4:_=false:=n4.trans (by rw [h];rfl)
  clear h hk hs n1 n2 n3 n4
  go_enter Tryz.func130,Tryz.ntmps130
  go_wp2
  go_ret
  exact ⟨by rw [HK.out] <;> rfl,rfl⟩
 ·have HK:=hideIt hk
  have m1:_=false:=n1.trans (by rw [h];rfl)
  have m2:_=false:=n2.trans (by rw [h];rfl)
  have m3:_=true:=n3.trans (by rw [h];rfl)
  have m4:_=false:=n4.trans (by rw [h];rfl)
  clear h hk hs n1 n2 n3 n4
  go_enter Tryz.func130,Tryz.ntmps130
  go_wp2
  go_ret
  exact ⟨by rw [HK.out] <;> rfl,rfl⟩
 ·have HK:=hideIt hk
  have m1:_=false:=n1.trans (by rw [h];rfl)
  have m2:_=false:=n2.trans (by rw [h];rfl)
  have m3:_=false:=n3.trans (by rw [h];rfl)
  have m4:_=true:=n4.trans (by rw [h];rfl)
  clear h hk hs n1 n2 n3 n4
  go_enter Tryz.func130,Tryz.ntmps130
  go_wp2
  go_ret
  exact ⟨by rw [HK.out] <;> rfl,rfl⟩
 ·have HK:=hideIt hk
  have m1:_=false:=n1.trans (decide_eq_false h1)
  have m2:_=false:=n2.trans (decide_eq_false h2)
  have m3:_=false:=n3.trans (decide_eq_false h3)
  have m4:_=false:=n4.trans (decide_eq_false h4)
  clear hk hs n1 n2 n3 n4
  go_enter Tryz.func130,Tryz.ntmps130
  go_wp2
  go_ret
  exact ⟨by rw [HK.out] <;> rfl,rfl⟩
theorem bs_ne (L:List UInt8) (h:L≠[]):((bs L).toList == [])=false:=by rw [lit_eq];exact decide_eq_false h
theorem kw_ne {k:Int} (h:1≤k∧k≤4):kw k≠[]:=by
 rcases kind_cases k with rfl | rfl | rfl | rfl | h'
 ·decide
 ·decide
 ·decide
 ·decide
 ·omega
def lenE (told is:Nat):Int:=if 262144 < told then 3 else if is < told then 4 else if told < is then 5 else 0
set_option maxHeartbeats 400000 in
theorem checkLength_any (n m:Nat) (w:World) :
  Calls Tryz.prog 132 #[.int .u64 (n:Int),.int .u64 (m:Int)] w fun e w'=>e=.returned (.int .i64 (lenE n m))∧w'=w:=by
 have HL:Hid (lenE n m=if 262144 < n then 3 else if m < n then 4 else if n < m then 5 else 0):=rfl
 by_cases h1:262144 < n
 ·rw [if_pos h1] at HL
  have i1:(262144:Int) < (n:Int):=by omega
  go_enter Tryz.func132,Tryz.ntmps132
  go_wp2
  go_ret
  exact ⟨by rw [HL.out] <;> rfl,rfl⟩
 have i1:¬ (262144:Int) < (n:Int):=by omega
 rw [if_neg h1] at HL
 by_cases h2:m < n
 ·rw [if_pos h2] at HL
  have i2:(m:Int) < (n:Int):=by omega
  go_enter Tryz.func132,Tryz.ntmps132
  go_wp2
  go_ret
  exact ⟨by rw [HL.out] <;> rfl,rfl⟩
 have i2:¬ (m:Int) < (n:Int):=by omega
 rw [if_neg h2] at HL
 by_cases h3:n < m
 ·rw [if_pos h3] at HL
  have i3:(n:Int) < (m:Int):=by omega
  go_enter Tryz.func132,Tryz.ntmps132
  go_wp2
  go_ret
  exact ⟨by rw [HL.out] <;> rfl,rfl⟩
 have i3:¬ (n:Int) < (m:Int):=by omega
 rw [if_neg h3] at HL
 go_enter Tryz.func132,Tryz.ntmps132
 go_wp2
 go_ret
 exact ⟨by rw [HL.out] <;> rfl,rfl⟩
end Ob
end Go.Proofs.YtogjlepdejonpaaGreatDoor
namespace Go.Proofs.YtogjlepdejonpaaGreatDoor
namespace Ob
open Go.RowKit Go.Shelf
def opV (r:Int × List UInt8 × Int):Value:=.tuple #[.int .i64 r.1,.string (bs r.2.1),.int .i64 r.2.2]
theorem und_lt {L:List UInt8} {n:Nat} (h:Cb.Dd.und L=some n):n < 18446744073709551616:=by
 unfold Cb.Dd.und at h
 cases hr:Lib.parseUintB 64 L with
 | ok u =>
  rw [hr] at h
  simp only at h
  have hne:L≠[]:=fun e=>by rw [e] at hr;cases hr
  rw [Cb.Dd.B64 _ hne] at hr
  have:=(Cb.Dd.parse_ok _ 0 u (by unfold Cb.Dd.M;omega) hr).2.2
  unfold Cb.Dd.M at this
  split at h
  ·simp only [Option.some.injEq] at h;omega
  ·cases h
 | _=>rw [hr] at h;cases h
set_option maxHeartbeats 1600000 in
set_option maxRecDepth 100000 in
theorem split_any (L:List UInt8) (hL:L.length≤1000000) (w:World) (hk:Ok w) :
  Calls Tryz.prog 81 #[.string (bs L)] w fun e w'=>e=.returned (opV (opn L))∧Below w.heap.size w w':=by
 have HOK:=hideIt hk
 have HC:=hideIt (fun w h=>sCut_any L 0 hL w h)
 clear hk
 cases h0:cutc 0 L with
 | none =>
  have HO:Hid (opn L=(0,[],6)):=hideIt (by rw [opn,h0])
  rw [show cutV 0 L=.tuple #[.string (bs L),.string ⟨#[]⟩,.bool false] by rw [cutV,h0]] at HC
  have HC2:=hideIt (fun w h=>sCut_any L 32 hL w h)
  cases h1:cutc 32 L with
  | none =>
   rw [show cutV 32 L=.tuple #[.string (bs L),.string ⟨#[]⟩,.bool false] by rw [cutV,h1]] at HC2
   clear h0 h1
   go_enter Tryz.func81,Tryz.ntmps81
   go_wp2_with (first | (go_at_call_of 129 (Value.string ⟨#[0]⟩);refine (HC.out _ HOK.out.max).mono ?_;rintro e w1 ⟨rfl,hb1⟩) | (go_at_call_of 129 (Value.string ⟨#[32]⟩);refine (HC2.out _ (HOK.out.below hb1).max).mono ?_;rintro e w2 ⟨rfl,hb2⟩))
   go_ret3
   exact ⟨by rw [HO.out];rfl,below2 hb1 hb2⟩
  | some p =>
   obtain ⟨a,r⟩:=p
   rw [show cutV 32 L=.tuple #[.string (bs a),.string (bs r),.bool true] by rw [cutV,h1]] at HC2
   clear h0 h1
   go_enter Tryz.func81,Tryz.ntmps81
   go_wp2_with (first | (go_at_call_of 129 (Value.string ⟨#[0]⟩);refine (HC.out _ HOK.out.max).mono ?_;rintro e w1 ⟨rfl,hb1⟩) | (go_at_call_of 129 (Value.string ⟨#[32]⟩);refine (HC2.out _ (HOK.out.below hb1).max).mono ?_;rintro e w2 ⟨rfl,hb2⟩))
   go_ret3
   exact ⟨by rw [HO.out];rfl,below2 hb1 hb2⟩
 | some p =>
  obtain ⟨hd,body⟩:=p
  rw [show cutV 0 L=.tuple #[.string (bs hd),.string (bs body),.bool true] by rw [cutV,h0]] at HC
  have hlen:hd.length + body.length < 1000000:=by
   obtain ⟨e,-⟩:=cutc_some 0 L hd body h0
   rw [e] at hL
   simp at hL
   omega
  have HC2:=hideIt (fun w h=>sCut_any hd 32 (by omega) w h)
  cases h1:cutc 32 hd with
  | none =>
   have HO:Hid (opn L=(0,[],6)):=hideIt (by rw [opn,h0];simp only;rw [h1])
   rw [show cutV 32 hd=.tuple #[.string (bs hd),.string ⟨#[]⟩,.bool false] by rw [cutV,h1]] at HC2
   clear h0 h1
   go_enter Tryz.func81,Tryz.ntmps81
   go_wp2_with (first | (go_at_call_of 129 (Value.string ⟨#[0]⟩);refine (HC.out _ HOK.out.max).mono ?_;rintro e w1 ⟨rfl,hb1⟩) | (go_at_call_of 129 (Value.string ⟨#[32]⟩);refine (HC2.out _ (HOK.out.below hb1).max).mono ?_;rintro e w2 ⟨rfl,hb2⟩))
   go_ret3
   exact ⟨by rw [HO.out];rfl,below2 hb1 hb2⟩
  | some p =>
   obtain ⟨wd,d⟩:=p
   rw [show cutV 32 hd=.tuple #[.string (bs wd),.string (bs d),.bool true] by rw [cutV,h1]] at HC2
   have hlen2:wd.length + d.length < 1000000:=by
    obtain ⟨e,-⟩:=cutc_some 32 hd wd d h1
    have:=congrArg List.length e
    simp at this
    omega
   have HK:=hideIt (fun w=>kindOf_any wd w)
   have HU:=hideIt (fun w h=>undec_c d w (by omega) h)
   have HO:Hid (opn L=if kn wd=0 then (0,[],70) else opn3 (kn wd) body (Cb.Dd.und d)):=hideIt (by simp only [opn,h0,h1])
   have hbs:(bs body).size=body.length:=bs_size body
   obtain ⟨kk,hkk⟩:∃ kk,kn wd=kk:=⟨_,rfl⟩
   obtain ⟨B,hB⟩:∃ B,bs body=B:=⟨_,rfl⟩
   rw [hkk] at HK HO
   rw [hB] at HC hbs
   have HBB:=hideIt hB
   clear h0 h1 hkk hB
   by_cases hz:kk=0
   ·subst hz
    rw [if_pos rfl] at HO
    go_enter Tryz.func81,Tryz.ntmps81
    go_wp2_with (first | (go_at_call_of 129 (Value.string ⟨#[0]⟩);refine (HC.out _ HOK.out.max).mono ?_;rintro e w1 ⟨rfl,hb1⟩) | (go_at_call_of 129 (Value.string ⟨#[32]⟩);refine (HC2.out _ (HOK.out.below hb1).max).mono ?_;rintro e w2 ⟨rfl,hb2⟩) | (go_at_call 130;refine (HK.out _).mono ?_;rintro e w3 ⟨rfl,rfl⟩))
    go_ret3
    exact ⟨by rw [HO.out];rfl,below2 hb1 hb2⟩
   ·rw [if_neg hz] at HO
    cases hu:Cb.Dd.und d with
    | none =>
     rw [hu] at HO HU
     have HU2:Hid (∀ w,Ok w→Calls Tryz.prog 131 #[.string (bs d)] w fun e w'=>e=.returned (.tuple #[.int .u64 0,.int .i64 6])∧Below w.heap.size w w'):=HU
     clear HU
     go_enter Tryz.func81,Tryz.ntmps81
     go_wp2_with (first | (go_at_call_of 129 (Value.string ⟨#[0]⟩);refine (HC.out _ HOK.out.max).mono ?_;rintro e w1 ⟨rfl,hb1⟩) | (go_at_call_of 129 (Value.string ⟨#[32]⟩);refine (HC2.out _ (HOK.out.below hb1).max).mono ?_;rintro e w2 ⟨rfl,hb2⟩) | (go_at_call 130;refine (HK.out _).mono ?_;rintro e w3 ⟨rfl,rfl⟩) | (go_at_call 131;refine (HU2.out _ ((HOK.out.below hb1).below hb2)).mono ?_;rintro e w4 ⟨rfl,hb4⟩))
     go_ret3
     exact ⟨by rw [HO.out];rfl,below2 (below2 hb1 hb2) hb4⟩
    | some n =>
     rw [hu] at HO HU
     have HU2:Hid (∀ w,Ok w→Calls Tryz.prog 131 #[.string (bs d)] w fun e w'=>e=.returned (.tuple #[.int .u64 (n:Int),.int .i64 0])∧Below w.heap.size w w'):=HU
     have HCL:Hid (∀ w,Calls Tryz.prog 132 #[.int .u64 (n:Int),.int .u64 (IntKind.u64.wrap (B.size:Int))] w fun e w'=>e=.returned (.int .i64 (lenE n B.size))∧w'=w):=hideIt (fun w=>by
      rw [show IntKind.u64.wrap (B.size:Int)=(B.size:Int) by rw [IntKind.wrap_u64];omega]
      exact checkLength_any n B.size w)
     have HO2:Hid (opn L=if lenE n B.size=0 then (kk,body,0) else (0,[],lenE n B.size)):=hideIt (by
      rw [HO.out,lenE,hbs,opn3]
      by_cases q1:262144 < n
      ·simp [q1]
      ·by_cases q2:body.length < n
       ·simp [q1,q2]
       ·by_cases q3:n < body.length
        ·simp [q1,q2,q3]
        ·simp [q1,q2,q3])
     obtain ⟨z,hzz⟩:∃ z,lenE n B.size=z:=⟨_,rfl⟩
     rw [hzz] at HCL HO2
     clear HU HO hu hzz hbs hlen hlen2 hL
     by_cases hz0:z=0
     ·subst hz0
      rw [if_pos rfl] at HO2
      go_enter Tryz.func81,Tryz.ntmps81
      go_wp2_with (first | (go_at_call_of 129 (Value.string ⟨#[0]⟩);refine (HC.out _ HOK.out.max).mono ?_;rintro e w1 ⟨rfl,hb1⟩) | (go_at_call_of 129 (Value.string ⟨#[32]⟩);refine (HC2.out _ (HOK.out.below hb1).max).mono ?_;rintro e w2 ⟨rfl,hb2⟩) | (go_at_call 130;refine (HK.out _).mono ?_;rintro e w3 ⟨rfl,rfl⟩) | (go_at_call 131;refine (HU2.out _ ((HOK.out.below hb1).below hb2)).mono ?_;rintro e w4 ⟨rfl,hb4⟩) | (go_at_call 132;refine (HCL.out _).mono ?_;rintro e w5 ⟨rfl,rfl⟩))
      go_ret3
      exact ⟨by rw [HO2.out,← HBB.out];rfl,below2 (below2 hb1 hb2) hb4⟩
     ·rw [if_neg hz0] at HO2
      go_enter Tryz.func81,Tryz.ntmps81
      go_wp2_with (first | (go_at_call_of 129 (Value.string ⟨#[0]⟩);refine (HC.out _ HOK.out.max).mono ?_;rintro e w1 ⟨rfl,hb1⟩) | (go_at_call_of 129 (Value.string ⟨#[32]⟩);refine (HC2.out _ (HOK.out.below hb1).max).mono ?_;rintro e w2 ⟨rfl,hb2⟩) | (go_at_call 130;refine (HK.out _).mono ?_;rintro e w3 ⟨rfl,rfl⟩) | (go_at_call 131;refine (HU2.out _ ((HOK.out.below hb1).below hb2)).mono ?_;rintro e w4 ⟨rfl,hb4⟩) | (go_at_call 132;refine (HCL.out _).mono ?_;rintro e w5 ⟨rfl,rfl⟩))
      go_ret3
      exact ⟨by rw [HO2.out];rfl,below2 (below2 hb1 hb2) hb4⟩
theorem opn_len (L:List UInt8):(opn L).2.1.length≤1000000:=by
 unfold opn
 cases h0:cutc 0 L with
 | none=>simp
 | some p =>
  obtain ⟨hd,body⟩:=p
  simp only
  cases h1:cutc 32 hd with
  | none=>simp
  | some p =>
   obtain ⟨wd,d⟩:=p
   simp only
   by_cases hk:kn wd=0
   ·rw [if_pos hk];simp
   ·rw [if_neg hk]
    cases Cb.Dd.und d with
    | none=>simp [opn3]
    | some n =>
     rw [opn3]
     split
     ·simp
     ·split
      ·simp
      ·split
       ·simp
       ·simp;omega
theorem sha_size (M:List UInt8):(Sa.Sha.sha M).size=32:=by
 simp [Sa.Sha.sha,Sa.Sha.out,Sa.Sha.bstr,ByteArray.size]
set_option maxHeartbeats 400000 in
theorem id_any (s:ByteArray) (w:World) (hs:s.size < 100000000) (hk:Ok w) :
  Calls Tryz.prog 38 #[.string s] w fun e w'=>e=.returned (.string (Sa.Sha.sha s.data.toList))∧Below w.heap.size w w':=by
 have H:=hideIt (Sa.of_any s w hk.kat hs)
 clear hk
 go_enter Tryz.func38,Tryz.ntmps38
 go_wp2_with (first | (go_at_call 85;refine H.out.mono ?_;rintro e w1 ⟨rfl,hb1⟩))
 go_ret
 exact ⟨rfl,hb1⟩
set_option maxHeartbeats 400000 in
theorem refkind_any (k:Int) (h:0≤k∧k≤4) (w:World):Calls Tryz.prog 75 #[.int .i64 k] w fun e w'=>e=.returned (.string (bs (kw k)))∧Below w.heap.size w w':=by
 rcases (by omega:k=0∨k=1∨k=2∨k=3∨k=4) with rfl | rfl | rfl | rfl | rfl
 all_goals go_enter Tryz.func75,Tryz.ntmps75
 all_goals go_wp2
 all_goals go_ret
 all_goals exact ⟨rfl,(Below.refl _ _).alloc (Nat.le_refl _) _⟩
end Ob
end Go.Proofs.YtogjlepdejonpaaGreatDoor
namespace Go.Proofs.YtogjlepdejonpaaGreatDoor
namespace Ob
open Go.RowKit Go.Shelf
set_option maxHeartbeats 400000 in
set_option maxRecDepth 100000 in
theorem refraw_any (k:Int) (h:1≤k∧k≤4) (b:ByteArray) (w:World) (hb:b.size≤1000000) :
  Calls Tryz.prog 34 #[.int .i64 k,.string b] w fun e w'=>e=.returned (.string (bs (rawL k b.data.toList)))∧Below w.heap.size w w':=by
 have HW:=hideIt (fun w=>refkind_any k (by omega) w)
 have HRL:Hid (bs (rawL k b.data.toList)=bs (kw k) ++ ⟨#[32]⟩ ++ bs (Lib.decDigits b.size) ++ ⟨#[0]⟩ ++ b):=hideIt (rawS_eq k b)
 have sk:(bs (kw k)).size≤6:=by rw [bs_size];exact kw_len k
 have sd:(bs (Lib.decDigits b.size)).size≤20:=by rw [bs_size];exact nd_dec _ hb
 have HD:Hid (∀ w,Calls Tryz.prog 76 #[.int .u64 (b.size:Int)] w fun e w'=>e=.returned (.string (bs (Lib.decDigits b.size)))∧Below w.heap.size w w'):=hideIt (fun w=>Cb.refdec_any b.size w (by omega))
 obtain ⟨A,hA⟩:∃ A,bs (kw k)=A:=⟨_,rfl⟩
 obtain ⟨D,hD⟩:∃ D,bs (Lib.decDigits b.size)=D:=⟨_,rfl⟩
 rw [hA] at HW sk HRL
 rw [hD] at HD HRL sd
 have t1:¬ 9223372036854775807 < A.size + 1:=by omega
 have t2:¬ 9223372036854775807 < A.size + 1 + D.size:=by omega
 have t3:¬ 9223372036854775807 < A.size + 1 + D.size + 1:=by omega
 have t4:¬ 9223372036854775807 < A.size + 1 + D.size + 1 + b.size:=by omega
 clear h hA hD
 go_enter Tryz.func34,Tryz.ntmps34
 go_wp2_with (first | (go_at_call 75;refine (HW.out _).mono ?_;rintro e w1 ⟨rfl,hb1⟩) | (go_at_call 76;refine (HD.out _).mono ?_;rintro e w2 ⟨rfl,hb2⟩))
 go_ret
 exact ⟨by rw [HRL.out] <;> rfl,below2 hb1 hb2⟩
end Ob
end Go.Proofs.YtogjlepdejonpaaGreatDoor
namespace Go.Proofs.YtogjlepdejonpaaGreatDoor
namespace Ob
open Go.RowKit Go.Shelf
set_option maxHeartbeats 400000 in
theorem refid_any (s:ByteArray) (w:World) (hs:s.size < 100000000) :
  Calls Tryz.prog 21 #[.string s] w fun e w'=>e=.returned (.string (Sa.Sha.sha s.data.toList))∧Below w.heap.size w w':=by
 have H:=hideIt (Sa.ref_any s w hs)
 go_enter Tryz.func21,Tryz.ntmps21
 go_wp2_with (first | (go_at_call 51;refine H.out.mono ?_;rintro e w1 ⟨rfl,hb1⟩))
 go_ret
 exact ⟨rfl,hb1⟩
end Ob
end Go.Proofs.YtogjlepdejonpaaGreatDoor
namespace Go.Proofs.YtogjlepdejonpaaGreatDoor
open Go.Lib
namespace Lb
def runesF (s:ByteArray):Nat→Nat→List (Nat × Nat)
 | 0,_=>[]
 | f + 1,pos=>if pos < s.size then Utf8.decode s pos :: runesF s f (pos + (Utf8.decode s pos).2) else []
def runes (s:ByteArray):List (Nat × Nat):=runesF s s.size 0
def isBad (d:Nat × Nat):Bool:=decide (d.1=65533) && decide (d.2=1)
def refV (d:Nat × Nat):Int:=if isBad d=true then -1 else (d.1:Int)
def bar (x:Nat):Bool:=decide (x < 32) || (decide (127≤x) && decide (x≤159)) || decide (x=47) || decide (x=65533)
def noName (l:List UInt8):Bool:=l == [] || decide (64 < l.length) || l == [46] || l == [46,46]
def nameB (s:ByteArray):Bool:=!noName s.data.toList && (runes s).all (fun d=>!bar d.1)
def good (s:ByteArray) (f pos:Nat):Nat:=(runesF s f pos).countP (fun d=>!isBad d)
def bad (s:ByteArray) (f pos:Nat):Nat:=(runesF s f pos).countP isBad
theorem width_pos (s:ByteArray) (pos:Nat) (h:pos < s.size):1≤(Utf8.decode s pos).2:=by
 by_cases ha:(s[pos]'h).toNat < 128
 ·rw [decode_ascii s pos h ha]
  exact Nat.le_refl _
 ·exact (decode_high s pos h (by omega)).2
theorem runes_step (s:ByteArray) (f pos:Nat) (h:pos < s.size):runesF s (f + 1) pos=Utf8.decode s pos :: runesF s f (pos + (Utf8.decode s pos).2):=by rw [runesF,if_pos h]
theorem runes_end (s:ByteArray) (f pos:Nat) (h:¬ pos < s.size):runesF s f pos=[]:=by cases f <;> simp [runesF,h]
theorem decodeN_width (n b0 b1 b2 b3:Nat) (hn:0 < n):1≤(decodeN n b0 b1 b2 b3).2∧(decodeN n b0 b1 b2 b3).2≤n:=by
 unfold decodeN
 repeat' split
 all_goals (dsimp only;omega)
theorem decode_width (s:ByteArray) (pos:Nat) (h:pos < s.size):pos + (Utf8.decode s pos).2≤s.size:=by
 rw [decode_at]
 have:=(decodeN_width (s.size - pos) (s.get! pos).toNat (s.get! (pos + 1)).toNat (s.get! (pos + 2)).toNat (s.get! (pos + 3)).toNat (by omega)).2
 omega
theorem get_list (s:ByteArray) (i:Nat):s.get! i=s.data.toList.getD i 0:=by
 by_cases h:i < s.size
 ·have h':i < s.data.size:=h
  rw [ByteArray.get!,getElem!_pos s.data i h',List.getD_eq_getElem?_getD,List.getElem?_eq_getElem (by simpa using h')]
  simp
 ·have h':¬ i < s.data.size:=h
  rw [ByteArray.get!,getElem!_neg s.data i h',List.getD_eq_getElem?_getD,List.getElem?_eq_none (by simpa using h')]
  rfl
theorem get_cut (s:ByteArray) (pos i:Nat):(s.extract pos s.size).get! i=s.get! (pos + i):=by
 rw [get_list,get_list,ByteArray.data_extract]
 have h:s.data.size=s.size:=rfl
 simp only [Array.toList_extract,List.extract_eq_take_drop,List.getD_eq_getElem?_getD]
 rw [List.take_of_length_le (by simp),List.getElem?_drop]
theorem size_cut (s:ByteArray) (pos:Nat):(s.extract pos s.size).size=s.size - pos:=by rw [ByteArray.size_extract];omega
theorem decode_cut (s:ByteArray) (pos:Nat):Utf8.decode (s.extract pos s.size) 0=Utf8.decode s pos:=by
 rw [decode_at,decode_at,size_cut,get_cut,get_cut,get_cut,get_cut]
 simp
theorem cut_cut (s:ByteArray) (pos k:Nat):(s.extract pos s.size).extract k (s.extract pos s.size).size=s.extract (pos + k) s.size:=by
 have h:s.data.size=s.size:=rfl
 have e:∀ t:ByteArray,t.data.toList=(s.extract (pos + k) s.size).data.toList→t=s.extract (pos + k) s.size:=by
  intro t ht;cases t;cases hh:s.extract (pos + k) s.size;simp [hh] at ht;simp [ht]
 apply e
 rw [size_cut]
 simp only [ByteArray.data_extract,Array.toList_extract,List.extract_eq_take_drop]
 rw [List.take_of_length_le (i:=s.size - pos - k) (by simp),List.take_of_length_le (i:=s.size - pos) (by simp),List.take_of_length_le (by simp),List.drop_drop]
def valC (v least:Int) (n:Nat):Int × Nat:=if v < least∨(55296≤v∧v < 57344)∨1114111 < v then (-1,1) else (v,n)
def cont (b:Nat):Bool:=decide (128≤b) && decide (b≤191)
def fstN (n b0 b1 b2 b3:Nat):Int × Nat :=
 if b0 < 128 then ((b0:Int),1)
 else if 194≤b0∧b0 < 224 then
  (if n≤1 then (-1,1) else if cont b1=false then (-1,1) else valC (((b0:Int) - 192) * 64 + b1 - 128) 128 2)
 else if 224≤b0∧b0 < 240 then
  (if n≤2 then (-1,1) else if cont b1=false then (-1,1) else if cont b2=false then (-1,1) else valC ((((b0:Int) - 224) * 64 + b1 - 128) * 64 + b2 - 128) 2048 3)
 else if 240≤b0∧b0 < 245 then
  (if n≤3 then (-1,1) else if cont b1=false then (-1,1) else if cont b2=false then (-1,1) else if cont b3=false then (-1,1) else valC (((((b0:Int) - 240) * 64 + b1 - 128) * 64 + b2 - 128) * 64 + b3 - 128) 65536 4)
 else (-1,1)
def refD (d:Nat × Nat):Int × Nat:=(refV d,d.2)
theorem refD_mk (x k:Nat):refD (x,k)=(if x=65533∧k=1 then ((-1:Int),1) else ((x:Int),k)):=by
 unfold refD refV isBad
 by_cases h:x=65533∧k=1
 ·obtain ⟨rfl,rfl⟩:=h;rfl
 ·rw [if_neg h,if_neg (by simpa using h)]
set_option maxHeartbeats 4000000 in
theorem fstN_eq (n b0 b1 b2 b3:Nat) (h0:b0 < 256) (h1:b1 < 256) (h2:b2 < 256) (h3:b3 < 256):fstN n b0 b1 b2 b3=refD (decodeN n b0 b1 b2 b3):=by
 unfold fstN decodeN valC cont
 simp only [Bool.and_eq_false_iff,decide_eq_false_iff_not]
 repeat' split
 all_goals rw [refD_mk]
 all_goals first | (rw [if_pos (by omega)];done) | (rw [if_neg (by omega)];done) | (rw [if_neg (by omega)];apply Prod.ext <;> simp only <;> omega) | (exfalso;omega)
theorem first_eq (s:ByteArray):fstN s.size (s.get! 0).toNat (s.get! 1).toNat (s.get! 2).toNat (s.get! 3).toNat=refD (Utf8.decode s 0):=by
 rw [fstN_eq _ _ _ _ _ (UInt8.toNat_lt _) (UInt8.toNat_lt _) (UInt8.toNat_lt _) (UInt8.toNat_lt _),decode_at]
 simp
theorem bad_prefix (n b0 b1 b2 b3:Nat) (h1:b1 < 256) (h:(decodeN n b0 b1 b2 b3).1=65533):isBad (decodeN n b0 b1 b2 b3)=!(decide (3≤n) && decide (b0=239) && decide (b1=191) && decide (b2=189)):=by
 have e:isBad (decodeN n b0 b1 b2 b3)=decide ((decodeN n b0 b1 b2 b3).2=1):=by simp [isBad,h]
 rw [e]
 have k:((decodeN n b0 b1 b2 b3).2=1)↔¬ (3≤n∧b0=239∧b1=191∧b2=189):=by
  revert h
  unfold decodeN
  repeat' split
  all_goals (dsimp only;omega)
 by_cases hh:3≤n∧b0=239∧b1=191∧b2=189
 ·have:=mt k.1 (not_not_intro hh)
  obtain ⟨a,b,c,d⟩:=hh
  rw [decide_eq_false this]
  simp [a,b,c,d]
 ·have:=k.2 hh
  simp only [this,decide_true]
  have:¬ ((3≤n∧b0=239)∧b1=191)∨¬ b2=189:=by omega
  symm
  simp only [Bool.not_eq_true',Bool.and_eq_false_iff,decide_eq_false_iff_not]
  omega
end Lb
end Go.Proofs.YtogjlepdejonpaaGreatDoor
namespace Go.Proofs.YtogjlepdejonpaaGreatDoor
open Go.RowKit
theorem hideIt {p:Prop} (h:p):Hid p:=h
def bs (l:List UInt8):ByteArray:=⟨l.toArray⟩
theorem bs_data (s:ByteArray):bs s.data.toList=s:=by cases s;simp [bs]
theorem bs_list (l:List UInt8):(bs l).data.toList=l:=by simp [bs]
theorem bs_size (l:List UInt8):(bs l).size=l.length:=by simp [bs,ByteArray.size]
theorem str_len (s:ByteArray):s.data.toList.length=s.size:=by rw [Array.length_toList];rfl
theorem below_step {B:Nat} {w a b:World} (h:Below B w a) (hB:B≤w.heap.size) (k:Below a.heap.size a b):Below B w b:=h.trans (k.mono (Nat.le_trans hB h.size))
theorem below2 {w a b:World} (h:Below w.heap.size w a) (k:Below a.heap.size a b):Below w.heap.size w b:=below_step h (Nat.le_refl _) k
theorem below_iter (w:World) (s:ByteArray) (pos:Nat):Below w.heap.size w (w.iter s pos):=(Below.refl _ _).alloc (Nat.le_refl _) _
theorem alloc_at {w:World} {o:Obj} {n:Nat} (h:w.heap.size=n):(w.alloc o).heap[n]? = some o:=by subst h;exact heap_alloc_new w o
structure SegCmp (s:ByteArray) (a b c:Bool):Prop where
 a1:(s.toList == [])=a
 a2:s.toList.isEmpty=a
 b1:(s.toList == [46])=b
 c1:(s.toList == [46,46])=c
theorem seg_cmp (s:ByteArray):SegCmp s (s.data.toList == []) (s.data.toList == [46]) (s.data.toList == [46,46]):=by
 refine ⟨by rw [ByteArray.toList_eq],?_,by rw [ByteArray.toList_eq],by rw [ByteArray.toList_eq]⟩
 rw [ByteArray.toList_eq]
 cases s.data.toList <;> rfl
theorem noName_of (s:ByteArray) {a b c d:Bool} (ha:(s.data.toList == [])=a) (hd:decide ((64:Int) < (s.size:Int))=d) (hb:(s.data.toList == [46])=b) (hc:(s.data.toList == [46,46])=c):Lb.noName s.data.toList=(((a || d) || b) || c):=by
 subst ha hb hc hd
 unfold Lb.noName
 rw [str_len]
 congr 1
 congr 1
 congr 1
 apply decide_eq_decide.2
 omega
structure BarC (x:Int) (a b c d e:Bool):Prop where
 a1:decide (x < (32:Int))=a
 b1:decide ((127:Int)≤x)=b
 c1:decide (x≤(159:Int))=c
 d1:(x == 47)=d
 e1:(x == 65533)=e
def barI (x:Int):Bool:=decide (x < 32) || (decide (127≤x) && decide (x≤159)) || (x == 47) || (x == 65533)
theorem barI_of {x:Int} {a b c d e:Bool} (h:BarC x a b c d e):barI x=(((a || (b && c)) || d) || e):=by
 obtain ⟨h1,h2,h3,h4,h5⟩:=h
 subst h1 h2 h3 h4 h5
 rfl
theorem bar_cases (x:Int):BarC x true false true false false∨BarC x false false true true false∨BarC x false false true false false∨BarC x false true true false false∨BarC x false true false false false∨BarC x false true false false true:=by
 have mk:∀ a b c d e:Bool,(decide (x < (32:Int))=a∧decide ((127:Int)≤x)=b∧decide (x≤(159:Int))=c∧(x == 47)=d∧(x == 65533)=e)→BarC x a b c d e:=fun a b c d e h=>⟨h.1,h.2.1,h.2.2.1,h.2.2.2.1,h.2.2.2.2⟩
 by_cases h1:x < 32
 ·exact .inl (mk _ _ _ _ _ (by simp;omega))
 ·by_cases h2:x=47
  ·exact .inr (.inl (mk _ _ _ _ _ (by simp;omega)))
  ·by_cases h3:x < 127
   ·exact .inr (.inr (.inl (mk _ _ _ _ _ (by simp;omega))))
   ·by_cases h4:x≤159
    ·exact .inr (.inr (.inr (.inl (mk _ _ _ _ _ (by simp;omega)))))
    ·by_cases h5:x=65533
     ·exact .inr (.inr (.inr (.inr (.inr (mk _ _ _ _ _ (by simp;omega))))))
     ·exact .inr (.inr (.inr (.inr (.inl (mk _ _ _ _ _ (by simp;omega))))))
theorem barI_nat (x:Nat):barI (x:Int)=Lb.bar x:=by
 unfold barI Lb.bar
 have e1:∀ n:Nat,((x:Int) == (n:Int))=decide (x=n):=by intro n;by_cases hh:x=n <;> simp [hh] <;> omega
 have e47:=e1 47
 have e65:=e1 65533
 simp only [Int.cast_ofNat_Int] at e47 e65
 rw [e47,e65]
 congr 1
 congr 1
 congr 1
 ·apply decide_eq_decide.2;omega
 ·congr 1 <;> (apply decide_eq_decide.2;omega)
theorem barI_ref (d:Nat × Nat):barI (Lb.refV d)=Lb.bar d.1:=by
 unfold Lb.refV
 by_cases h:Lb.isBad d=true
 ·rw [if_pos h]
  have:d.1=65533:=by simp [Lb.isBad] at h;exact h.1
  rw [this]
  rfl
 ·rw [if_neg h,barI_nat]
structure Cmp (x:Int) (a b c d f g:Bool):Prop where
 a1:decide ((97:Int)≤x)=a
 b1:decide (x≤(122:Int))=b
 c1:decide ((48:Int)≤x)=c
 d1:decide (x≤(57:Int))=d
 f1:(x == 45)=f
 g1:(x == 95)=g
theorem cmp_cases (x:Int):Cmp x true true true false false false∨Cmp x true false true false false false∨Cmp x false true true true false false∨Cmp x false true true false false true∨Cmp x false true true false false false
  ∨ Cmp x false true false true true false∨Cmp x false true false true false false:=by
 have mk:∀ a b c d f g:Bool,(decide ((97:Int)≤x)=a∧decide (x≤(122:Int))=b∧decide ((48:Int)≤x)=c∧decide (x≤(57:Int))=d∧(x == 45)=f∧(x == 95)=g)→Cmp x a b c d f g:=fun a b c d f g h=>⟨h.1,h.2.1,h.2.2.1,h.2.2.2.1,h.2.2.2.2.1,h.2.2.2.2.2⟩
 by_cases h1:97≤x
 ·by_cases h2:x≤122
  ·exact .inl (mk _ _ _ _ _ _ (by simp;omega))
  ·exact .inr (.inl (mk _ _ _ _ _ _ (by simp;omega)))
 ·by_cases h3:48≤x
  ·by_cases h4:x≤57
   ·exact .inr (.inr (.inl (mk _ _ _ _ _ _ (by simp;omega))))
   ·by_cases h5:x=95
    ·exact .inr (.inr (.inr (.inl (mk _ _ _ _ _ _ (by simp;omega)))))
    ·exact .inr (.inr (.inr (.inr (.inl (mk _ _ _ _ _ _ (by simp;omega))))))
  ·by_cases h7:x=45
   ·exact .inr (.inr (.inr (.inr (.inr (.inl (mk _ _ _ _ _ _ (by simp;omega)))))))
   ·exact .inr (.inr (.inr (.inr (.inr (.inr (mk _ _ _ _ _ _ (by simp;omega)))))))
def refI (x:Int):Bool:=(decide (97≤x) && decide (x≤122)) || (decide (48≤x) && decide (x≤57)) || (x == 45) || (x == 95)
theorem refI_of {x:Int} {a b c d f g:Bool} (h:Cmp x a b c d f g):refI x=((((a && b) || (c && d)) || f) || g):=by
 obtain ⟨h1,h2,h3,h4,h5,h6⟩:=h
 subst h1 h2 h3 h4 h5 h6
 rfl
theorem refI_big (x:Nat) (h:128≤x):refI (x:Int)=false:=by
 unfold refI
 simp
 omega
theorem at_list (p:ByteArray) (k:Nat) (h:k < p.size):p.data.toList[k]? = some p[k]:=by
 rw [List.getElem?_eq_getElem (by rw [str_len];exact h)]
 rfl
end Go.Proofs.YtogjlepdejonpaaGreatDoor
namespace Go.Proofs.YtogjlepdejonpaaGreatDoor
open Go.RowKit
set_option maxHeartbeats 800000 in
theorem barred_any (x:Nat) (w:World):Calls Tryz.prog 287 #[.int .i32 (x:Int)] w fun e w'=>e=.returned (.bool (Lb.bar x))∧w'=w:=by
 rw [← barI_nat]
 rcases bar_cases (x:Int) with H | H | H | H | H | H
 all_goals (have HB:=hideIt (barI_of H);obtain ⟨q1,q2,q3,q4,q5⟩:=H)
 all_goals go_enter Tryz.func287,Tryz.ntmps287
 all_goals go_wp2
 all_goals go_ret
 all_goals exact ⟨by rw [HB.out];rfl,rfl⟩
theorem all_step {s:ByteArray} {f pos:Nat} {p:Nat × Nat→Bool} {b:Bool} (h:pos < s.size) (hb:s.size≤pos + f) (e:(Lb.runesF s f pos).all p=b):∃ g,s.size≤pos + (Utf8.decode s pos).2 + g∧(p (Utf8.decode s pos) && (Lb.runesF s g (pos + (Utf8.decode s pos).2)).all p)=b:=by
 cases f with
 | zero=>omega
 | succ f =>
  have:=Lb.width_pos s pos h
  refine ⟨f,by omega,?_⟩
  rw [← e,Lb.runes_step s f pos h,List.all_cons]
set_option maxHeartbeats 1600000 in
set_option maxRecDepth 100000 in
theorem name_any (s:ByteArray) (w:World) :
  Calls Tryz.prog 263 #[.string s] w fun e w'=>e=.returned (.bool (Lb.nameB s))∧Below w.heap.size w w':=by
 obtain ⟨e1,e2,e3,e4⟩:=seg_cmp s
 have HN:=hideIt (noName_of s rfl rfl rfl rfl)
 have HD:Hid (Lb.nameB s=(!Lb.noName s.data.toList && (Lb.runes s).all (fun d=>!Lb.bar d.1))):=rfl
 rw [HN.out] at HD
 clear HN
 obtain ⟨m,hm⟩:∃ m:Int,(s.size:Int)=m:=⟨_,rfl⟩
 rw [hm] at HD
 generalize hx1:(s.data.toList == [])=x1 at *
 generalize hx2:(s.data.toList == [46])=x2 at *
 generalize hx3:(s.data.toList == [46,46])=x3 at *
 generalize hx4:decide ((64:Int) < m)=x4 at *
 clear hx1 hx2 hx3
 cases x1 <;> cases x4 <;> cases x2 <;> cases x3
 case false.false.false.false =>
  have HD':Hid (Lb.nameB s=(Lb.runes s).all (fun d=>!Lb.bar d.1)):=hideIt (by rw [HD.out];simp)
  clear HD
  go_enter Tryz.func263,Tryz.ntmps263
  go_wp2
  go_loopw [4] (fun _ wr=>∃ pos f:Nat,wr=w.iter s pos∧s.size≤pos + f∧(Lb.runesF s f pos).all (fun d=>!Lb.bar d.1)=Lb.nameB s) (fun _ wr=>s.size - wr.iterPos w.heap.size)
  case atStart=>exact ⟨0,s.size,rfl,by omega,by rw [HD'.out];rfl⟩
  case round =>
   obtain ⟨pos,f,rfl,hf,hr⟩:=hrel
   by_cases hp:pos < s.size
   ·obtain ⟨g,hg,he⟩:=all_step hp hf hr
    have hw:=Lb.width_pos s pos hp
    have hnx:∀ ty,(Instr.next (.pointer (some ⟨w.heap.size,0,none⟩)) true ty).run Tryz.prog (w.iter s pos)=_:=fun ty=>run_next_any w s pos ty hp
    obtain ⟨d,hd⟩:∃ d,Utf8.decode s pos=d:=⟨_,rfl⟩
    rw [hd] at hg he hw
    simp only [hd] at hnx
    obtain ⟨x,k⟩:=d
    simp only at hg he hw hnx
    have HB:=hideIt (barred_any x)
    have HE:=hideIt he
    clear hd he hr hf
    generalize Lb.bar x=b at *
    cases b
    ·go_wp2_with (first | (go_at_call 287;refine (HB.out _).mono ?_;rintro e wx ⟨rfl,hwx⟩;obtain rfl:=hwx.symm))
     go_roundw
     case rel=>exact ⟨pos + k,g,rfl,hg,by simpa using HE.out⟩
     case measure=>simp;omega
    ·go_wp2_with (first | (go_at_call 287;refine (HB.out _).mono ?_;rintro e wx ⟨rfl,hwx⟩;obtain rfl:=hwx.symm))
     go_ret
     exact ⟨by rw [← HE.out];rfl,below_iter _ _ _⟩
   ·have hnx:∀ ty,(Instr.next (.pointer (some ⟨w.heap.size,0,none⟩)) true ty).run Tryz.prog (w.iter s pos)=_:=fun ty=>run_next_end w s pos ty hp
    have HE:=hideIt hr
    clear hr
    go_wp2
    go_ret
    exact ⟨by rw [← HE.out,Lb.runes_end s f pos hp];rfl,below_iter _ _ _⟩
 all_goals
  have HD':Hid (Lb.nameB s=false):=hideIt (by rw [HD.out];simp)
  clear HD
  go_enter Tryz.func263,Tryz.ntmps263
  go_wp2
  go_ret
  exact ⟨by rw [HD'.out];try rfl,Below.refl _ _⟩
end Go.Proofs.YtogjlepdejonpaaGreatDoor
namespace Go.Proofs.YtogjlepdejonpaaGreatDoor
open Go.RowKit
def pre (a p:ByteArray):Bool:=decide (p.size≤a.size) && ((a.extract 0 p.size).toList == p.toList)
set_option maxHeartbeats 400000 in
theorem slpre_any (a p:ByteArray) (w:World) :
  Calls Tryz.prog 194 #[.string a,.string p] w fun e w'=>e=.returned (.bool (pre a p))∧w'=w:=by
 obtain ⟨n,hn⟩:∃ n,a.size=n:=⟨_,rfl⟩
 obtain ⟨m,hm⟩:∃ m,p.size=m:=⟨_,rfl⟩
 have hn':(a.size:Int)=(n:Int):=by rw [hn]
 have hm':(p.size:Int)=(m:Int):=by rw [hm]
 by_cases h:m≤n
 ·have c1:(m:Int)≤(n:Int):=by omega
  have c2:decide ((m:Int)≤(n:Int))=true:=by simpa using h
  have HP:Hid (pre a p=((a.extract 0 m).toList == p.toList)):=hideIt (by rw [pre,hm,hn];simp [h])
  obtain ⟨x,hx⟩:∃ x,((a.extract 0 m).toList == p.toList)=x:=⟨_,rfl⟩
  rw [hx] at HP
  have b0:(0:Int)≤(m:Int):=by omega
  cases x
  all_goals
   go_enter Tryz.func194,Tryz.ntmps194
   go_wp2
   go_ret
   exact ⟨by rw [HP.out];try rfl,rfl⟩
 ·have c1:¬ (m:Int)≤(n:Int):=by omega
  have c2:decide ((m:Int)≤(n:Int))=false:=by simp;omega
  have HP:Hid (pre a p=false):=hideIt (by rw [pre,hm,hn];simp [h])
  go_enter Tryz.func194,Tryz.ntmps194
  go_wp2
  go_ret
  exact ⟨by rw [HP.out];try rfl,rfl⟩
theorem hasPrefix_any (a p:ByteArray) (w:World) :
  Calls Tryz.prog 218 #[.string a,.string p] w fun e w'=>e=.returned (.bool (pre a p))∧w'=w:=by
 have H:=hideIt (fun w=>slpre_any a p w)
 go_enter Tryz.func218,Tryz.ntmps218
 go_wp2_with (first | (go_at_call 194;refine (H.out _).mono ?_;rintro e wx ⟨rfl,hwx⟩;obtain rfl:=hwx.symm))
 go_ret
 exact ⟨rfl,rfl⟩
theorem slcut_any (a p:ByteArray) (w:World) :
  Calls Tryz.prog 265 #[.string a,.string p] w fun e w'=>e=.returned (.tuple #[.string (if pre a p=true then a.extract p.size a.size else a),.bool (pre a p)])∧w'=w:=by
 have H:=hideIt (fun w=>slpre_any a p w)
 obtain ⟨n,hn⟩:∃ n,a.size=n:=⟨_,rfl⟩
 obtain ⟨m,hm⟩:∃ m,p.size=m:=⟨_,rfl⟩
 have hn':(a.size:Int)=(n:Int):=by rw [hn]
 have hm':(p.size:Int)=(m:Int):=by rw [hm]
 have hle:pre a p=true→m≤n:=by intro h;rw [pre,hn,hm] at h;simp at h;exact h.1
 rw [hm,hn]
 obtain ⟨x,hx⟩:∃ x,pre a p=x:=⟨_,rfl⟩
 rw [hx] at H hle ⊢
 clear hx
 cases x
 ·clear hle
  go_enter Tryz.func265,Tryz.ntmps265
  go_wp2_with (first | (go_at_call 194;refine (H.out _).mono ?_;rintro e wx ⟨rfl,hwx⟩;obtain rfl:=hwx.symm))
  go_ret2
  exact ⟨rfl,rfl⟩
 ·have hl:=hle rfl
  clear hle
  have b0:(0:Int)≤(m:Int):=by omega
  have b1:(m:Int)≤(n:Int):=by omega
  go_enter Tryz.func265,Tryz.ntmps265
  go_wp2_with (first | (go_at_call 194;refine (H.out _).mono ?_;rintro e wx ⟨rfl,hwx⟩;obtain rfl:=hwx.symm))
  go_ret2
  exact ⟨rfl,rfl⟩
theorem cutPrefix_any (a p:ByteArray) (w:World) :
  Calls Tryz.prog 219 #[.string a,.string p] w fun e w'=>e=.returned (.tuple #[.string (if pre a p=true then a.extract p.size a.size else a),.bool (pre a p)])∧w'=w:=by
 have H:=hideIt (fun w=>slcut_any a p w)
 obtain ⟨o,ho⟩:∃ o,(if pre a p=true then a.extract p.size a.size else a)=o:=⟨_,rfl⟩
 rw [ho] at H ⊢
 obtain ⟨x,hx⟩:∃ x,pre a p=x:=⟨_,rfl⟩
 rw [hx] at H ⊢
 clear ho hx
 go_enter Tryz.func219,Tryz.ntmps219
 go_wp2_with (first | (go_at_call 265;refine (H.out _).mono ?_;rintro e wx ⟨rfl,hwx⟩;obtain rfl:=hwx.symm))
 go_ret2
 exact ⟨rfl,rfl⟩
set_option maxHeartbeats 800000 in
theorem ofRefs_any (x:Nat) (w:World):Calls Tryz.prog 289 #[.int .i32 (x:Int)] w fun e w'=>e=.returned (.bool (refI (x:Int)))∧w'=w:=by
 rcases cmp_cases (x:Int) with H | H | H | H | H | H | H
 all_goals (have HB:=hideIt (refI_of H);obtain ⟨q1,q2,q3,q4,q5,q6⟩:=H)
 all_goals go_enter Tryz.func289,Tryz.ntmps289
 all_goals go_wp2
 all_goals go_ret
 all_goals exact ⟨by rw [HB.out];rfl,rfl⟩
def okRef (o:ByteArray):Bool:=!(o.data.toList == []) && (!decide (64 < o.data.toList.length) && o.data.toList.all (fun c=>refI (c.toNat:Int)))
theorem decodeN_big (n b0 b1 b2 b3:Nat) (h:128≤b0):128≤(Lib.decodeN n b0 b1 b2 b3).1:=by
 unfold Lib.decodeN
 rw [if_neg (by omega)]
 repeat' split
 all_goals first | (dsimp only;omega) | omega
theorem runes_ref (s:ByteArray):∀ (f pos:Nat),s.size≤f + pos→(Lb.runesF s f pos).all (fun d=>refI (d.1:Int))=(s.data.toList.drop pos).all (fun c=>refI (c.toNat:Int)):=by
 intro f
 induction f with
 | zero =>
  intro pos h
  rw [List.drop_eq_nil_of_le (by rw [str_len];omega)]
  rfl
 | succ f ih =>
  intro pos h
  by_cases hp:pos < s.size
  ·have hl:pos < s.data.toList.length:=by rw [str_len];exact hp
   rw [Lb.runes_step s f pos hp,List.drop_eq_getElem_cons hl,List.all_cons,List.all_cons]
   have hg:s.data.toList[pos]=s.get! pos:=by rw [Lb.get_list,List.getD_eq_getElem?_getD,List.getElem?_eq_getElem hl];rfl
   rw [hg]
   obtain ⟨c,hc⟩:∃ c,s.get! pos=c:=⟨_,rfl⟩
   rw [Lib.decode_at,hc]
   by_cases h128:c.toNat < 128
   ·have hd:∀ n b1 b2 b3,Lib.decodeN n c.toNat b1 b2 b3=(c.toNat,1):=by intro n b1 b2 b3;rw [Lib.decodeN,if_pos h128]
    rw [hd]
    dsimp only
    rw [ih (pos + 1) (by omega)]
   ·rw [refI_big _ (decodeN_big _ _ _ _ _ (by omega)),refI_big c.toNat (by omega)]
    simp
  ·rw [Lb.runes_end _ _ _ hp,List.drop_eq_nil_of_le (by rw [str_len];omega)]
   rfl
end Go.Proofs.YtogjlepdejonpaaGreatDoor
namespace Go.Proofs.YtogjlepdejonpaaGreatDoor
open Go.RowKit
theorem pre_fffd (s:ByteArray) (pos:Nat):pre (s.extract pos s.size) ⟨#[239,191,189]⟩=(decide (3≤s.size - pos) && decide ((s.get! pos).toNat=239) && decide ((s.get! (pos + 1)).toNat=191) && decide ((s.get! (pos + 2)).toNat=189)):=by
 have hsz:(ByteArray.mk #[239,191,189]).size=3:=rfl
 rw [pre,hsz,Lb.size_cut]
 by_cases h:3≤s.size - pos
 ·have g:∀ i,s.get! (pos + i)=(s.extract pos s.size).get! i:=fun i=>(Lb.get_cut s pos i).symm
  have g0:=g 0
  rw [Nat.add_zero] at g0
  rw [g0,g 1,g 2]
  have hz:(s.extract pos s.size).size=s.size - pos:=Lb.size_cut s pos
  generalize s.extract pos s.size=a at *
  rw [Lb.get_list,Lb.get_list,Lb.get_list,ByteArray.toList_eq,ByteArray.toList_eq,ByteArray.data_extract]
  have hl:a.data.toList.length=a.size:=str_len a
  have hx:(a.data.extract 0 3).toList=a.data.toList.take 3:=by simp [List.extract_eq_take_drop]
  rw [hx]
  generalize a.data.toList=l at *
  rcases l with _ | ⟨x,_ | ⟨y,_ | ⟨z,t⟩⟩⟩
  ·simp at hl;omega
  ·simp at hl;omega
  ·simp at hl;omega
  ·simp only [h,decide_true,Bool.true_and,List.take,List.getD_cons_zero,List.getD_cons_succ]
   have e:∀ (u:UInt8) (n:Nat),n < 256→decide (u.toNat=n)=(u == UInt8.ofNat n):=by
    intro u n hn
    by_cases hh:u=UInt8.ofNat n
    ·subst hh;simp;omega
    ·have:¬ u.toNat=n:=by intro k;apply hh;rw [← k];simp
     simp [hh,this]
   rw [e x 239 (by omega),e y 191 (by omega),e z 189 (by omega)]
   show (x == 239 && (y == 191 && (z == 189 && true)))=_
   simp [Bool.and_assoc]
 ·simp [h]
theorem bad_pre (s:ByteArray) (pos:Nat) (h:(Utf8.decode s pos).1=65533):Lb.isBad (Utf8.decode s pos)=!pre (s.extract pos s.size) ⟨#[239,191,189]⟩:=by
 rw [pre_fffd]
 rw [Lib.decode_at] at h ⊢
 exact Lb.bad_prefix _ _ _ _ _ (UInt8.toNat_lt _) h
theorem isBad_no (d:Nat × Nat) (h:¬ d.1=65533):Lb.isBad d=false:=by simp [Lb.isBad,h]
theorem count_step {s:ByteArray} {f pos a b n m:Nat} (h:pos < s.size) (hb:s.size≤pos + f) (e1:a + Lb.good s f pos=n) (e2:b + Lb.bad s f pos=m) :
  ∃ g,s.size≤pos + (Utf8.decode s pos).2 + g∧(Lb.isBad (Utf8.decode s pos)=true→a + Lb.good s g (pos + (Utf8.decode s pos).2)=n∧b + 1 + Lb.bad s g (pos + (Utf8.decode s pos).2)=m)∧(Lb.isBad (Utf8.decode s pos)=false→a + 1 + Lb.good s g (pos + (Utf8.decode s pos).2)=n∧b + Lb.bad s g (pos + (Utf8.decode s pos).2)=m):=by
 cases f with
 | zero=>omega
 | succ f =>
  have:=Lb.width_pos s pos h
  refine ⟨f,by omega,?_⟩
  unfold Lb.good Lb.bad at *
  rw [Lb.runes_step s f pos h,List.countP_cons] at e1 e2
  constructor
  ·intro hb
   simp only [hb] at e1 e2
   simp at e1 e2
   omega
  ·intro hb
   simp only [hb] at e1 e2
   simp at e1 e2
   omega
set_option maxHeartbeats 1600000 in
set_option maxRecDepth 100000 in
theorem words_any (s:ByteArray) (w:World) (hs:s.size≤maxLen) :
  Calls Tryz.prog 267 #[.string s] w fun e w'=>e=.returned (.tuple #[.int .i64 (Lb.good s s.size 0:Nat),.int .i64 (Lb.bad s s.size 0:Nat)])∧Below w.heap.size w w':=by
 unfold maxLen at hs
 obtain ⟨n,hn⟩:∃ n,Lb.good s s.size 0=n:=⟨_,rfl⟩
 obtain ⟨m,hm⟩:∃ m,Lb.bad s s.size 0=m:=⟨_,rfl⟩
 rw [hn,hm]
 have HN:=hideIt hn
 have HM:=hideIt hm
 clear hn hm
 go_enter Tryz.func267,Tryz.ntmps267
 go_wp2
 go_loopw [4,5,6,7] (fun u v _ _ wr=>∃ pos f a b:Nat,wr=w.iter s pos∧u=.int .i64 a∧v=.int .i64 b∧a≤pos∧b≤pos∧s.size≤pos + f∧a + Lb.good s f pos=n∧b + Lb.bad s f pos=m) (fun _ _ _ _ wr=>s.size - wr.iterPos w.heap.size)
 case atStart=>exact ⟨0,s.size,0,0,rfl,rfl,rfl,by omega,by omega,by omega,by rw [HN.out];omega,by rw [HM.out];omega⟩
 case round =>
  obtain ⟨pos,f,a,b,rfl,rfl,rfl,ha,hb,hf,h1,h2⟩:=hrel
  by_cases hp:pos < s.size
  ·obtain ⟨g,hg,heb,heg⟩:=count_step hp hf h1 h2
   have hw:=Lb.width_pos s pos hp
   have hbp:=bad_pre s pos
   have hbn:=isBad_no (Utf8.decode s pos)
   have hnx:∀ ty,(Instr.next (.pointer (some ⟨w.heap.size,0,none⟩)) true ty).run Tryz.prog (w.iter s pos)=_:=fun ty=>run_next_any w s pos ty hp
   obtain ⟨d,hd⟩:∃ d,Utf8.decode s pos=d:=⟨_,rfl⟩
   rw [hd] at hg heb heg hw hbp hbn
   simp only [hd] at hnx
   obtain ⟨x,k⟩:=d
   simp only at hg heb heg hw hnx hbp hbn
   have HP:=hideIt (hasPrefix_any (s.extract pos s.size) ⟨#[239,191,189]⟩)
   have HEB:=hideIt heb
   have HEG:=hideIt heg
   clear hd heb heg hf h1 h2
   have b0:(0:Int)≤(pos:Int):=by omega
   have b1:(pos:Int)≤(s.size:Int):=by omega
   have b2:(a:Int) + 1≤9223372036854775807:=by omega
   have b3:(b:Int) + 1≤9223372036854775807:=by omega
   by_cases hx:x=65533
   ·have c1:((x:Int) == 65533)=true:=by simp;omega
    have hbb:=hbp hx
    clear hbp hbn
    obtain ⟨y,hy⟩:∃ y,pre (s.extract pos s.size) ⟨#[239,191,189]⟩=y:=⟨_,rfl⟩
    rw [hy] at HP hbb
    clear hy
    cases y
    ·have HE:=hideIt (HEB.out hbb)
     clear hbb HEB HEG
     go_wp2_with (first | (go_at_call 218;refine (HP.out _).mono ?_;rintro e wx ⟨rfl,hwx⟩;obtain rfl:=hwx.symm))
     go_roundw
     case rel=>exact ⟨pos + k,g,a,b + 1,rfl,rfl,by go_num,by omega,by omega,hg,HE.out.1,HE.out.2⟩
     case measure=>simp;omega
    ·have HE:=hideIt (HEG.out hbb)
     clear hbb HEB HEG
     go_wp2_with (first | (go_at_call 218;refine (HP.out _).mono ?_;rintro e wx ⟨rfl,hwx⟩;obtain rfl:=hwx.symm))
     go_roundw
     case rel=>exact ⟨pos + k,g,a + 1,b,rfl,by go_num,rfl,by omega,by omega,hg,HE.out.1,HE.out.2⟩
     case measure=>simp;omega
   ·have c1:((x:Int) == 65533)=false:=by simp;omega
    have HE:=hideIt (HEG.out (hbn hx))
    clear hbp hbn HEB HEG
    go_wp2
    go_roundw
    case rel=>exact ⟨pos + k,g,a + 1,b,rfl,by go_num,rfl,by omega,by omega,hg,HE.out.1,HE.out.2⟩
    case measure=>simp;omega
  ·have hnx:∀ ty,(Instr.next (.pointer (some ⟨w.heap.size,0,none⟩)) true ty).run Tryz.prog (w.iter s pos)=_:=fun ty=>run_next_end w s pos ty hp
   have e1:a=n:=by rw [Lb.good,Lb.runes_end s f pos hp] at h1;simpa using h1
   have e2:b=m:=by rw [Lb.bad,Lb.runes_end s f pos hp] at h2;simpa using h2
   subst e1 e2
   clear h1 h2 HN HM
   go_wp2
   go_ret2
   exact ⟨rfl,below_iter _ _ _⟩
set_option maxHeartbeats 1600000 in
set_option maxRecDepth 100000 in
theorem standsIn_any (s p:ByteArray) (w:World) :
  Calls Tryz.prog 269 #[.string s,.string p] w fun e w'=>e=.returned (.bool (pre s p && okRef (s.extract p.size s.size)))∧Below w.heap.size w w':=by
 have HC:=hideIt (fun w=>cutPrefix_any s p w)
 obtain ⟨y,hy⟩:∃ y,pre s p=y:=⟨_,rfl⟩
 rw [hy] at HC ⊢
 clear hy
 cases y
 ·simp only [Bool.false_and]
  simp only [Bool.false_eq_true,if_false] at HC
  go_enter Tryz.func269,Tryz.ntmps269
  go_wp2_with (first | (go_at_call 219;refine (HC.out _).mono ?_;rintro e wx ⟨rfl,hwx⟩;obtain rfl:=hwx.symm))
  go_ret
  exact ⟨rfl,Below.refl _ _⟩
 ·simp only [Bool.true_and]
  simp only [if_true] at HC
  obtain ⟨o,ho⟩:∃ o,s.extract p.size s.size=o:=⟨_,rfl⟩
  rw [ho] at HC ⊢
  clear ho
  obtain ⟨e1,e2,_,_⟩:=seg_cmp o
  have HD:Hid (okRef o=(!(o.data.toList == []) && (!decide ((64:Int) < (o.size:Int)) && (Lb.runes o).all (fun d=>refI (d.1:Int))))):=hideIt (by
   have:=runes_ref o o.size 0 (by omega)
   rw [List.drop_zero] at this
   have e:decide ((64:Int) < (o.size:Int))=decide (64 < o.size):=by apply decide_eq_decide.2;omega
   rw [okRef,Lb.runes,this,str_len,e])
  obtain ⟨m,hm⟩:∃ m:Int,(o.size:Int)=m:=⟨_,rfl⟩
  rw [hm] at HD
  generalize hx1:(o.data.toList == [])=x1 at *
  generalize hx4:decide ((64:Int) < m)=x4 at *
  clear hx1
  cases x1 <;> cases x4
  case false.false =>
   have HD':Hid (okRef o=(Lb.runes o).all (fun d=>refI (d.1:Int))):=hideIt (by rw [HD.out];simp)
   clear HD
   go_enter Tryz.func269,Tryz.ntmps269
   go_wp2_with (first | (go_at_call 219;refine (HC.out _).mono ?_;rintro e wx ⟨rfl,hwx⟩;obtain rfl:=hwx.symm))
   go_loopw [8] (fun _ wr=>∃ pos f:Nat,wr=w.iter o pos∧o.size≤pos + f∧(Lb.runesF o f pos).all (fun d=>refI (d.1:Int))=okRef o) (fun _ wr=>o.size - wr.iterPos w.heap.size)
   case atStart=>exact ⟨0,o.size,rfl,by omega,by rw [HD'.out];rfl⟩
   case round =>
    obtain ⟨pos,f,rfl,hf,hr⟩:=hrel
    by_cases hp:pos < o.size
    ·obtain ⟨g,hg,he⟩:=all_step hp hf hr
     have hw:=Lb.width_pos o pos hp
     have hnx:∀ ty,(Instr.next (.pointer (some ⟨w.heap.size,0,none⟩)) true ty).run Tryz.prog (w.iter o pos)=_:=fun ty=>run_next_any w o pos ty hp
     obtain ⟨d,hd⟩:∃ d,Utf8.decode o pos=d:=⟨_,rfl⟩
     rw [hd] at hg he hw
     simp only [hd] at hnx
     obtain ⟨x,k⟩:=d
     simp only at hg he hw hnx
     have HB:=hideIt (ofRefs_any x)
     have HE:=hideIt he
     clear hd he hr hf
     generalize refI (x:Int)=b at *
     cases b
     ·go_wp2_with (first | (go_at_call 289;refine (HB.out _).mono ?_;rintro e wx ⟨rfl,hwx⟩;obtain rfl:=hwx.symm))
      go_ret
      exact ⟨by rw [← HE.out];rfl,below_iter _ _ _⟩
     ·go_wp2_with (first | (go_at_call 289;refine (HB.out _).mono ?_;rintro e wx ⟨rfl,hwx⟩;obtain rfl:=hwx.symm))
      go_roundw
      case rel=>exact ⟨pos + k,g,rfl,hg,by simpa using HE.out⟩
      case measure=>simp;omega
    ·have hnx:∀ ty,(Instr.next (.pointer (some ⟨w.heap.size,0,none⟩)) true ty).run Tryz.prog (w.iter o pos)=_:=fun ty=>run_next_end w o pos ty hp
     have HE:=hideIt hr
     clear hr
     go_wp2
     go_ret
     exact ⟨by rw [← HE.out,Lb.runes_end o f pos hp];rfl,below_iter _ _ _⟩
  all_goals
   have HD':Hid (okRef o=false):=hideIt (by rw [HD.out];simp)
   clear HD
   go_enter Tryz.func269,Tryz.ntmps269
   go_wp2_with (first | (go_at_call 219;refine (HC.out _).mono ?_;rintro e wx ⟨rfl,hwx⟩;obtain rfl:=hwx.symm))
   go_ret
   exact ⟨by rw [HD'.out];try rfl,Below.refl _ _⟩
def headS:ByteArray:=⟨#[104,101,97,100,115,47]⟩
def headB (s:ByteArray):Bool:=pre s headS && okRef (s.extract 6 s.size)
theorem head_any (s:ByteArray) (w:World):Calls Tryz.prog 268 #[.string s] w fun e w'=>e=.returned (.bool (headB s))∧Below w.heap.size w w':=by
 have H:=hideIt (fun w=>standsIn_any s headS w)
 have e:(pre s headS && okRef (s.extract headS.size s.size))=headB s:=rfl
 rw [e] at H
 clear e
 unfold headS at H
 go_enter Tryz.func268,Tryz.ntmps268
 go_wp2_with (first | (go_at_call 269;refine (H.out _).mono ?_;rintro e wx ⟨rfl,hb⟩))
 go_ret
 exact ⟨rfl,hb⟩
end Go.Proofs.YtogjlepdejonpaaGreatDoor
namespace Go.Proofs.YtogjlepdejonpaaGreatDoor
open Go.RowKit
def tagS : ByteArray := ⟨#[116, 97, 103, 115, 47]⟩
def tagB (s : ByteArray) : Bool := pre s tagS && okRef (s.extract 5 s.size)
set_option maxHeartbeats 400000 in
theorem ref_any (s : ByteArray) (w : World) : Calls Tryz.prog 224 #[.string s] w fun e w' => e = .returned (.bool (headB s || tagB s)) ∧ Below w.heap.size w w' := by
  have H := hideIt (fun w => standsIn_any s tagS w)
  have e : (pre s tagS && okRef (s.extract tagS.size s.size)) = tagB s := rfl
  rw [e] at H
  clear e
  unfold tagS at H
  have HH := hideIt (fun w => head_any s w)
  generalize headB s = a at *
  generalize tagB s = b at *
  cases a
  · go_enter Tryz.func224, Tryz.ntmps224
    go_wp2_with (first | (go_at_call 268; refine (HH.out _).mono ?_; rintro e w1 ⟨rfl, hb1⟩) | (go_at_call 269; refine (H.out _).mono ?_; rintro e w2 ⟨rfl, hb2⟩))
    go_ret
    exact ⟨rfl, below2 hb1 hb2⟩
  · go_enter Tryz.func224, Tryz.ntmps224
    go_wp2_with (first | (go_at_call 268; refine (HH.out _).mono ?_; rintro e w1 ⟨rfl, hb1⟩) | (go_at_call 269; refine (H.out _).mono ?_; rintro e w2 ⟨rfl, hb2⟩))
    go_ret
    exact ⟨rfl, hb1⟩
theorem okRef_bad (o : ByteArray) (h : o.data.toList.all (fun c => refI (c.toNat : Int)) = false) : okRef o = false := by rw [okRef, h]; simp
theorem okRef_long (o : ByteArray) (h : 64 < o.size) : okRef o = false := by rw [okRef, str_len]; simp [h]
theorem okRef_none (o : ByteArray) (h : o.size = 0) : okRef o = false := by
  have : o.data.toList = [] := List.length_eq_zero_iff.1 (by rw [str_len]; exact h)
  rw [okRef, this]; rfl
theorem okRef_good (o : ByteArray) (h0 : 0 < o.size) (h : ¬ 64 < o.size) (ha : o.data.toList.all (fun c => refI (c.toNat : Int)) = true) : okRef o = true := by
  rw [okRef]
  have hl := str_len o
  generalize o.data.toList = l at *
  cases l with
  | nil => simp at hl; omega
  | cons c t => rw [ha, hl]; simp; omega
theorem take_next (o : ByteArray) (k : Nat) (h : k < o.size) : (o.data.toList.take (k + 1)).all (fun c => refI (c.toNat : Int)) = ((o.data.toList.take k).all (fun c => refI (c.toNat : Int)) && refI ((o[k]).toNat : Int)) := by
  rw [List.take_add_one, at_list o k h, List.all_append]
  simp
theorem all_bad (o : ByteArray) (k : Nat) (h : k < o.size) (hf : refI ((o[k]).toNat : Int) = false) : o.data.toList.all (fun c => refI (c.toNat : Int)) = false := by
  have hl : k < o.data.toList.length := by rw [str_len]; exact h
  rw [List.all_eq_false]
  exact ⟨o[k], by have := at_list o k h; exact List.mem_of_getElem? this, by simp [hf]⟩
def hasH (s : ByteArray) : Bool := decide (6 < s.size) && ((s.extract 0 6).toList == [104, 101, 97, 100, 115, 47])
def hasT (s : ByteArray) : Bool := decide (5 < s.size) && ((s.extract 0 5).toList == [116, 97, 103, 115, 47])
/-- What the document's copy answers. -/
def refK (s : ByteArray) : Int := if hasH s = true then (if okRef (s.extract 6 s.size) = true then 1 else 0) else if hasT s = true then (if okRef (s.extract 5 s.size) = true then 2 else 0) else 0
theorem head_has (s : ByteArray) : headB s = (hasH s && okRef (s.extract 6 s.size)) := by
  unfold headB hasH pre
  have e1 : headS.size = 6 := rfl
  have e2 : headS.toList = [104, 101, 97, 100, 115, 47] := by rw [ByteArray.toList_eq]; rfl
  rw [e1, e2]
  by_cases h : s.size = 6
  · rw [okRef_none (s.extract 6 s.size) (by rw [ByteArray.size_extract]; omega)]; simp
  · have : decide (6 ≤ s.size) = decide (6 < s.size) := by apply decide_eq_decide.2; omega
    rw [this]
theorem tag_has (s : ByteArray) : tagB s = (hasT s && okRef (s.extract 5 s.size)) := by
  unfold tagB hasT pre
  have e1 : tagS.size = 5 := rfl
  have e2 : tagS.toList = [116, 97, 103, 115, 47] := by rw [ByteArray.toList_eq]; rfl
  rw [e1, e2]
  by_cases h : s.size = 5
  · rw [okRef_none (s.extract 5 s.size) (by rw [ByteArray.size_extract]; omega)]; simp
  · have : decide (5 ≤ s.size) = decide (5 < s.size) := by apply decide_eq_decide.2; omega
    rw [this]
theorem not_both (s : ByteArray) (h : hasH s = true) : ((s.extract 0 5).toList == [116, 97, 103, 115, 47]) = false := by
  unfold hasH at h
  simp only [Bool.and_eq_true, decide_eq_true_eq, beq_iff_eq] at h
  obtain ⟨h1, h2⟩ := h
  rw [ByteArray.toList_eq] at h2 ⊢
  have e : (s.extract 0 5).data.toList = ((s.extract 0 6).data.toList).take 5 := by
    rw [ByteArray.data_extract, ByteArray.data_extract]
    simp [List.extract_eq_take_drop, List.take_take]
  rw [e, h2]
  rfl
theorem both_no (s : ByteArray) (h : hasT s = true) : hasH s = false := by
  cases hh : hasH s with
  | false => rfl
  | true =>
    have := not_both s hh
    unfold hasT at h
    rw [this] at h
    simp at h
def IsZero (v : Value) : Prop := v = .int .i64 0
/-- The two answers agree. -/
theorem refK_says (s : ByteArray) : (headB s || tagB s) = decide (0 < refK s) ∧ headB s = (refK s == 1) := by
  rw [head_has, tag_has]
  unfold refK
  cases h1 : hasH s
  · cases h2 : hasT s
    · simp
    · cases okRef (s.extract 5 s.size) <;> simp
  · have h2 : hasT s = false := by
      cases h2 : hasT s with
      | false => rfl
      | true => rw [both_no s h2] at h1; cases h1
    rw [h2]
    cases okRef (s.extract 6 s.size) <;> simp
set_option maxHeartbeats 3200000 in
set_option maxRecDepth 100000 in
theorem refref_any (s : ByteArray) (w : World) (hs : s.size ≤ 1000000) :
    Calls Tryz.prog 161 #[.string s] w fun e w' => e = .returned (.int .i64 (refK s)) ∧ Below w.heap.size w w' := by
  obtain ⟨n, hn⟩ : ∃ n, s.size = n := ⟨_, rfl⟩
  have hni : (s.size : Int) = (n : Int) := by rw [hn]
  have hH : hasH s = (decide (6 < s.size) && ((s.extract 0 6).toList == [104, 101, 97, 100, 115, 47])) := rfl
  have hT : hasT s = (decide (5 < s.size) && ((s.extract 0 5).toList == [116, 97, 103, 115, 47])) := rfl
  have hNB := not_both s
  have hBN := both_no s
  have HR : Hid (refK s = (if hasH s = true then (if okRef (s.extract 6 s.size) = true then 1 else 0) else if hasT s = true then (if okRef (s.extract 5 s.size) = true then 2 else 0) else 0)) := rfl
  rw [hn] at hH hT
  generalize hasH s = A at *
  generalize hasT s = B at *
  cases A
  · cases B
    · have HR' : Hid (refK s = 0) := hideIt (by rw [HR.out]; simp)
      clear HR hNB hBN
      obtain ⟨x, hx⟩ : ∃ x, ((s.extract 0 6).toList == [104, 101, 97, 100, 115, 47]) = x := ⟨_, rfl⟩
      obtain ⟨y, hy⟩ : ∃ y, ((s.extract 0 5).toList == [116, 97, 103, 115, 47]) = y := ⟨_, rfl⟩
      rw [hx] at hH
      rw [hy] at hT
      by_cases h6 : 6 < n
      · have d6 : decide ((6 : Int) < (n : Int)) = true := by simp; omega
        have d5 : decide ((5 : Int) < (n : Int)) = true := by simp; omega
        have i6 : (6 : Int) ≤ (n : Int) := by omega
        have i5 : (5 : Int) ≤ (n : Int) := by omega
        rw [decide_eq_true h6, Bool.true_and] at hH
        rw [decide_eq_true (show 5 < n by omega), Bool.true_and] at hT
        subst hH hT
        go_enter Tryz.func161, Tryz.ntmps161
        go_wp2
        go_loop [5, 6] (fun i _ => IsZero i) (fun i _ => (intOf i).toNat)
        case atStart => exact rfl
        case round =>
          have hrel' : _ = Value.int .i64 0 := hrel
          clear hrel
          subst hrel'
          go_wp2
          go_ret
          exact ⟨by rw [HR'.out]; rfl, Below.refl _ _⟩
      · have d6 : decide ((6 : Int) < (n : Int)) = false := by simp; omega
        clear hH
        by_cases h5 : 5 < n
        · have d5 : decide ((5 : Int) < (n : Int)) = true := by simp; omega
          have i5 : (5 : Int) ≤ (n : Int) := by omega
          rw [decide_eq_true h5, Bool.true_and] at hT
          subst hT
          go_enter Tryz.func161, Tryz.ntmps161
          go_wp2
          go_loop [5, 6] (fun i _ => IsZero i) (fun i _ => (intOf i).toNat)
          case atStart => exact rfl
          case round =>
            have hrel' : _ = Value.int .i64 0 := hrel
            clear hrel
            subst hrel'
            go_wp2
            go_ret
            exact ⟨by rw [HR'.out]; rfl, Below.refl _ _⟩
        · have d5 : decide ((5 : Int) < (n : Int)) = false := by simp; omega
          clear hT
          go_enter Tryz.func161, Tryz.ntmps161
          go_wp2
          go_loop [5, 6] (fun i _ => IsZero i) (fun i _ => (intOf i).toNat)
          case atStart => exact rfl
          case round =>
            have hrel' : _ = Value.int .i64 0 := hrel
            clear hrel
            subst hrel'
            go_wp2
            go_ret
            exact ⟨by rw [HR'.out]; rfl, Below.refl _ _⟩
    · have hlt : 5 < n := by simp at hT; omega
      have e5 : ((s.extract 0 5).toList == [116, 97, 103, 115, 47]) = true := by rw [decide_eq_true hlt, Bool.true_and] at hT; exact hT.symm
      obtain ⟨x, hx⟩ : ∃ x, ((s.extract 0 6).toList == [104, 101, 97, 100, 115, 47]) = x := ⟨_, rfl⟩
      obtain ⟨u, hu⟩ : ∃ u, decide ((6 : Int) < (n : Int)) = u := ⟨_, rfl⟩
      have hux : u = false ∨ x = false := by
        have eu : decide (6 < n) = u := by rw [← hu]; apply decide_eq_decide.2; omega
        rw [hx, eu] at hH
        cases u
        · exact .inl rfl
        · cases x
          · exact .inr rfl
          · exact absurd hH (by decide)
      have HK : Hid (refK s = if okRef (s.extract 5 s.size) = true then 2 else 0) := hideIt (by rw [HR.out]; simp)
      clear HR hNB hBN hH hT
      have d5 : decide ((5 : Int) < (n : Int)) = true := by simp; omega
      have i6 : (5 : Int) ≤ (n : Int) := by omega
      obtain ⟨o, ho⟩ : ∃ o, s.extract 5 s.size = o := ⟨_, rfl⟩
      have hoz : o.size = n - 5 := by rw [← ho, ByteArray.size_extract]; omega
      rw [ho] at HK
      rw [hn] at ho
      obtain ⟨z, hz⟩ : ∃ z, o.size = z := ⟨_, rfl⟩
      have hzi : (o.size : Int) = (z : Int) := by rw [hz]
      have hz0 : 0 < z := by omega
      have hz1 : z ≤ 1000000 := by omega
      clear hoz
      cases u <;> cases x
      case true.true => rcases hux with h | h <;> cases h
      all_goals clear hux
      all_goals
        go_enter Tryz.func161, Tryz.ntmps161
        go_wp2
        go_quiet (fail)
        go_wp2
        go_loop [5, 6] (fun i _ => ∃ k : Nat, k ≤ z ∧ i = .int .i64 k ∧ (o.data.toList.take k).all (fun c => refI (c.toNat : Int)) = true) (fun i _ => z - (intOf i).toNat)
        case atStart => exact ⟨0, by omega, rfl, by simp⟩
        case round =>
          obtain ⟨k, hk, rfl, hall⟩ := hrel
          have HL := hideIt hall
          clear hall
          by_cases hlt : k < z
          · have d1 : decide ((k : Int) < (z : Int)) = true := by simp; omega
            have hks : k < o.size := by omega
            have i0 : (0 : Int) ≤ (k : Int) := by omega
            have i1 : (k : Int) < (z : Int) := by omega
            have i2 : (k : Int) ≤ 1000000 := by omega
            have HT := hideIt (take_next o k hks)
            have HX := hideIt (all_bad o k hks)
            obtain ⟨y, hy⟩ : ∃ y, (o[k]).toNat = y := ⟨_, rfl⟩
            rw [hy] at HT HX
            rcases cmp_cases (y : Int) with H | H | H | H | H | H | H
            all_goals (have HB := hideIt (refI_of H); obtain ⟨q1, q2, q3, q4, q5, q6⟩ := H)
            all_goals go_wp2
            all_goals first
              | (go_ret; exact ⟨by rw [HK.out, okRef_bad o (HX.out (by rw [HB.out]; rfl))]; rfl, ⟨rfl, rfl, rfl, Nat.le_refl _, fun _ _ => rfl⟩⟩)
              | (go_round
                 case rel => exact ⟨k + 1, by omega, by go_num, by rw [HT.out, HL.out, HB.out]; rfl⟩
                 case measure => simp [intOf]; omega)
          · have d1 : decide ((k : Int) < (z : Int)) = false := by simp; omega
            have HA : Hid (o.data.toList.all (fun c => refI (c.toNat : Int)) = true) := hideIt (by have := HL.out; rwa [List.take_of_length_le (by rw [str_len]; omega)] at this)
            by_cases h64 : 64 < z
            · have d2 : decide ((64 : Int) < (z : Int)) = true := by simp; omega
              go_wp2
              go_ret
              exact ⟨by rw [HK.out, okRef_long o (by omega)]; rfl, ⟨rfl, rfl, rfl, Nat.le_refl _, fun _ _ => rfl⟩⟩
            · have d2 : decide ((64 : Int) < (z : Int)) = false := by simp; omega
              go_wp2
              go_ret
              exact ⟨by rw [HK.out, okRef_good o (by omega) (by omega) HA.out]; rfl, ⟨rfl, rfl, rfl, Nat.le_refl _, fun _ _ => rfl⟩⟩
  · have hlt : 6 < n := by simp at hH; omega
    have hNB' := hNB rfl
    have e6 : ((s.extract 0 6).toList == [104, 101, 97, 100, 115, 47]) = true := by rw [decide_eq_true hlt, Bool.true_and] at hH; exact hH.symm
    have d6 : decide ((6 : Int) < (n : Int)) = true := by simp; omega
    have HK : Hid (refK s = if okRef (s.extract 6 s.size) = true then 1 else 0) := hideIt (by rw [HR.out]; simp)
    clear HR hNB hBN hH hT
    have d5 : decide ((5 : Int) < (n : Int)) = true := by simp; omega
    have i6 : (6 : Int) ≤ (n : Int) := by omega
    obtain ⟨o, ho⟩ : ∃ o, s.extract 6 s.size = o := ⟨_, rfl⟩
    have hoz : o.size = n - 6 := by rw [← ho, ByteArray.size_extract]; omega
    rw [ho] at HK
    rw [hn] at ho
    obtain ⟨z, hz⟩ : ∃ z, o.size = z := ⟨_, rfl⟩
    have hzi : (o.size : Int) = (z : Int) := by rw [hz]
    have hz0 : 0 < z := by omega
    have hz1 : z ≤ 1000000 := by omega
    clear hoz
    go_enter Tryz.func161, Tryz.ntmps161
    go_wp2
    go_quiet (fail)
    go_wp2
    go_loop [5, 6] (fun i _ => ∃ k : Nat, k ≤ z ∧ i = .int .i64 k ∧ (o.data.toList.take k).all (fun c => refI (c.toNat : Int)) = true) (fun i _ => z - (intOf i).toNat)
    case atStart => exact ⟨0, by omega, rfl, by simp⟩
    case round =>
      obtain ⟨k, hk, rfl, hall⟩ := hrel
      have HL := hideIt hall
      clear hall
      by_cases hlt : k < z
      · have d1 : decide ((k : Int) < (z : Int)) = true := by simp; omega
        have hks : k < o.size := by omega
        have i0 : (0 : Int) ≤ (k : Int) := by omega
        have i1 : (k : Int) < (z : Int) := by omega
        have i2 : (k : Int) ≤ 1000000 := by omega
        have HT := hideIt (take_next o k hks)
        have HX := hideIt (all_bad o k hks)
        obtain ⟨y, hy⟩ : ∃ y, (o[k]).toNat = y := ⟨_, rfl⟩
        rw [hy] at HT HX
        rcases cmp_cases (y : Int) with H | H | H | H | H | H | H
        all_goals (have HB := hideIt (refI_of H); obtain ⟨q1, q2, q3, q4, q5, q6⟩ := H)
        all_goals go_wp2
        all_goals first
          | (go_ret; exact ⟨by rw [HK.out, okRef_bad o (HX.out (by rw [HB.out]; rfl))]; rfl, ⟨rfl, rfl, rfl, Nat.le_refl _, fun _ _ => rfl⟩⟩)
          | (go_round
             case rel => exact ⟨k + 1, by omega, by go_num, by rw [HT.out, HL.out, HB.out]; rfl⟩
             case measure => simp [intOf]; omega)
      · have d1 : decide ((k : Int) < (z : Int)) = false := by simp; omega
        have HA : Hid (o.data.toList.all (fun c => refI (c.toNat : Int)) = true) := hideIt (by have := HL.out; rwa [List.take_of_length_le (by rw [str_len]; omega)] at this)
        by_cases h64 : 64 < z
        · have d2 : decide ((64 : Int) < (z : Int)) = true := by simp; omega
          go_wp2
          go_ret
          exact ⟨by rw [HK.out, okRef_long o (by omega)]; rfl, ⟨rfl, rfl, rfl, Nat.le_refl _, fun _ _ => rfl⟩⟩
        · have d2 : decide ((64 : Int) < (z : Int)) = false := by simp; omega
          go_wp2
          go_ret
          exact ⟨by rw [HK.out, okRef_good o (by omega) (by omega) HA.out]; rfl, ⟨rfl, rfl, rfl, Nat.le_refl _, fun _ _ => rfl⟩⟩
end Go.Proofs.YtogjlepdejonpaaGreatDoor
namespace Go.Proofs.YtogjlepdejonpaaGreatDoor
open Go.RowKit
namespace Lb
def accV (s:ByteArray) (v:Int):Nat→Int
 | 0=>v
 | k + 1=>accV s v k * 64 + ((s.get! (k + 1)).toNat:Int) - 128
def fstS (s:ByteArray):Int × Nat:=fstN s.size (s.get! 0).toNat (s.get! 1).toNat (s.get! 2).toNat (s.get! 3).toNat
def Cls (b n:Nat) (least sub:Int):Prop:=(194≤b∧b < 224∧n=1∧least=128∧sub=192)∨(224≤b∧b < 240∧n=2∧least=2048∧sub=224)∨(240≤b∧b < 245∧n=3∧least=65536∧sub=240)
theorem fst_low (s:ByteArray) (h:(s.get! 0).toNat < 128):fstS s=(((s.get! 0).toNat:Int),1):=by rw [fstS,fstN,if_pos h]
theorem fst_none (s:ByteArray) (h:(128≤(s.get! 0).toNat∧(s.get! 0).toNat < 194)∨245≤(s.get! 0).toNat):fstS s=(-1,1):=by
 rw [fstS,fstN,if_neg (by omega),if_neg (by omega),if_neg (by omega),if_neg (by omega)]
theorem fst_short {s:ByteArray} {n:Nat} {least sub:Int} (c:Cls (s.get! 0).toNat n least sub) (h:s.size≤n):fstS s=(-1,1):=by
 rw [fstS]
 rcases c with ⟨h1,h2,rfl,rfl,rfl⟩ | ⟨h1,h2,rfl,rfl,rfl⟩ | ⟨h1,h2,rfl,rfl,rfl⟩
 ·rw [fstN,if_neg (by omega),if_pos (by omega),if_pos h]
 ·rw [fstN,if_neg (by omega),if_neg (by omega),if_pos (by omega),if_pos h]
 ·rw [fstN,if_neg (by omega),if_neg (by omega),if_neg (by omega),if_pos (by omega),if_pos h]
theorem fst_stray {s:ByteArray} {n:Nat} {least sub:Int} (c:Cls (s.get! 0).toNat n least sub) (h:n < s.size) (k:Nat) (hk:k < n) (hc:cont (s.get! (k + 1)).toNat=false):fstS s=(-1,1):=by
 rw [fstS]
 rcases c with ⟨h1,h2,rfl,rfl,rfl⟩ | ⟨h1,h2,rfl,rfl,rfl⟩ | ⟨h1,h2,rfl,rfl,rfl⟩
 ·obtain rfl:k=0:=by omega
  rw [fstN,if_neg (by omega),if_pos (by omega),if_neg (by omega),if_pos hc]
 ·rw [fstN,if_neg (by omega),if_neg (by omega),if_pos (by omega),if_neg (by omega)]
  have:k=0∨k=1:=by omega
  rcases this with rfl | rfl
  ·rw [if_pos hc]
  ·rw [if_pos hc];split <;> rfl
 ·rw [fstN,if_neg (by omega),if_neg (by omega),if_neg (by omega),if_pos (by omega),if_neg (by omega)]
  have:k=0∨k=1∨k=2:=by omega
  rcases this with rfl | rfl | rfl
  ·rw [if_pos hc]
  ·rw [if_pos hc];split <;> rfl
  ·rw [if_pos hc];repeat' split
   all_goals rfl
theorem fst_val {s:ByteArray} {n:Nat} {least sub:Int} (c:Cls (s.get! 0).toNat n least sub) (h:n < s.size) (hc:∀ k,k < n→cont (s.get! (k + 1)).toNat=true):fstS s=valC (accV s (((s.get! 0).toNat:Int) - sub) n) least (n + 1):=by
 rw [fstS]
 rcases c with ⟨h1,h2,rfl,rfl,rfl⟩ | ⟨h1,h2,rfl,rfl,rfl⟩ | ⟨h1,h2,rfl,rfl,rfl⟩
 ·rw [fstN,if_neg (by omega),if_pos (by omega),if_neg (by omega),if_neg (by rw [hc 0 (by omega)];simp)]
  rfl
 ·rw [fstN,if_neg (by omega),if_neg (by omega),if_pos (by omega),if_neg (by omega),if_neg (by rw [hc 0 (by omega)];simp),if_neg (by rw [hc 1 (by omega)];simp)]
  rfl
 ·rw [fstN,if_neg (by omega),if_neg (by omega),if_neg (by omega),if_pos (by omega),if_neg (by omega),if_neg (by rw [hc 0 (by omega)];simp),if_neg (by rw [hc 1 (by omega)];simp),if_neg (by rw [hc 2 (by omega)];simp)]
  rfl
theorem accV_next (s:ByteArray) (v:Int) (i:Nat) (h:1≤i):accV s v i=accV s v (i - 1) * 64 + ((s.get! i).toNat:Int) - 128:=by
 cases i with
 | zero=>omega
 | succ k=>rfl
theorem accV_bound (s:ByteArray) (v:Int) (h0:0≤v) (h1:v≤31):∀ n,(∀ k,k < n→cont (s.get! (k + 1)).toNat=true)→0≤accV s v n∧accV s v n + 1≤32 * 64 ^ n:=by
 intro n
 induction n with
 | zero=>intro _;simp [accV];omega
 | succ n ih =>
  intro hc
  obtain ⟨a,b⟩:=ih (fun k hk=>hc k (by omega))
  have:=hc n (by omega)
  simp [cont] at this
  rw [accV,Int.pow_succ]
  generalize (64:Int) ^ n=q at *
  omega
end Lb
structure FstC (x:Int) (a b c d e f g:Bool):Prop where
 a1:decide (x < (128:Int))=a
 b1:decide ((194:Int)≤x)=b
 c1:decide (x < (224:Int))=c
 d1:decide ((224:Int)≤x)=d
 e1:decide (x < (240:Int))=e
 f1:decide ((240:Int)≤x)=f
 g1:decide (x < (245:Int))=g
theorem fstC_mk (x:Int) (a b c d e f g:Bool) (h:decide (x < (128:Int))=a∧decide ((194:Int)≤x)=b∧decide (x < (224:Int))=c∧decide ((224:Int)≤x)=d∧decide (x < (240:Int))=e∧decide ((240:Int)≤x)=f∧decide (x < (245:Int))=g):FstC x a b c d e f g :=
 ⟨h.1,h.2.1,h.2.2.1,h.2.2.2.1,h.2.2.2.2.1,h.2.2.2.2.2.1,h.2.2.2.2.2.2⟩
theorem get_idx (s:ByteArray) (k:Nat) (h:k < s.size):s.get! k=s[k]:=get_at s k h
set_option maxHeartbeats 1600000 in
set_option maxRecDepth 100000 in
theorem first_low (s:ByteArray) (w:World) (h0:0 < s.size) (h:(s.get! 0).toNat < 128∨(128≤(s.get! 0).toNat∧(s.get! 0).toNat < 194)∨245≤(s.get! 0).toNat) :
  Calls Tryz.prog 207 #[.string s] w fun e w'=>e=.returned (.tuple #[.int .i64 (Lb.fstS s).1,.int .i64 ((Lb.fstS s).2:Nat)])∧w'=w:=by
 have g0:=get_idx s 0 h0
 have hlt:(s[0]).toNat < 256:=UInt8.toNat_lt _
 have low:=Lb.fst_low s
 have none:=Lb.fst_none s
 rw [g0] at low none h
 obtain ⟨x,hx⟩:∃ x,(s[0]).toNat=x:=⟨_,rfl⟩
 rw [hx] at low none h hlt
 have b1:(x:Int) < 256:=by omega
 rcases h with h | h | h
 ·rw [low h]
  obtain ⟨q1,q2,q3,q4,q5,q6,q7⟩:FstC (x:Int) true false true false true false true:=fstC_mk _ _ _ _ _ _ _ _ (by simp;omega)
  clear low none g0
  go_enter Tryz.func207,Tryz.ntmps207
  go_wp2
  go_ret2
  exact ⟨rfl,rfl⟩
 ·rw [none (.inl h)]
  obtain ⟨q1,q2,q3,q4,q5,q6,q7⟩:FstC (x:Int) false false true false true false true:=fstC_mk _ _ _ _ _ _ _ _ (by simp;omega)
  clear low none g0
  go_enter Tryz.func207,Tryz.ntmps207
  go_wp2
  go_ret2
  exact ⟨rfl,rfl⟩
 ·rw [none (.inr h)]
  obtain ⟨q1,q2,q3,q4,q5,q6,q7⟩:FstC (x:Int) false true false true false true false:=fstC_mk _ _ _ _ _ _ _ _ (by simp;omega)
  clear low none g0
  go_enter Tryz.func207,Tryz.ntmps207
  go_wp2
  go_ret2
  exact ⟨rfl,rfl⟩
theorem valC_of (v least:Int) (n:Nat) {a b c d:Bool} (h1:decide (v < least)=a) (h2:decide ((55296:Int)≤v)=b) (h3:decide (v < (57344:Int))=c) (h4:decide ((1114111:Int) < v)=d):Lb.valC v least n=if (a || (b && c) || d)=true then (-1,1) else (v,n):=by
 subst h1 h2 h3 h4
 unfold Lb.valC
 simp only [Bool.or_eq_true,Bool.and_eq_true,decide_eq_true_eq,or_assoc]
theorem cont_of (x:Nat) {a b:Bool} (h1:decide ((x:Int) < (128:Int))=a) (h2:decide ((191:Int) < (x:Int))=b):Lb.cont x=(!a && !b):=by
 subst h1 h2
 unfold Lb.cont
 have e1:decide (128≤x)=!decide ((x:Int) < 128):=by rw [← decide_not];apply decide_eq_decide.2;omega
 have e2:decide (x≤191)=!decide ((191:Int) < (x:Int)):=by rw [← decide_not];apply decide_eq_decide.2;omega
 rw [e1,e2]
set_option maxHeartbeats 3200000 in
set_option maxRecDepth 100000 in
theorem first_cls1 (s:ByteArray) (w:World) (hs:s.size≤maxLen) (h0:0 < s.size) (hb:194≤(s.get! 0).toNat∧(s.get! 0).toNat < 224) :
  Calls Tryz.prog 207 #[.string s] w fun e w'=>e=.returned (.tuple #[.int .i64 (Lb.fstS s).1,.int .i64 ((Lb.fstS s).2:Nat)])∧w'=w:=by
 unfold maxLen at hs
 have hc:Lb.Cls (s.get! 0).toNat 1 128 192:=by unfold Lb.Cls;omega
 have HS:=hideIt (fun h=>Lb.fst_short hc h)
 have HT:=hideIt (fun h=>Lb.fst_stray hc h)
 have HV:=hideIt (fun h=>Lb.fst_val hc h)
 have g0:=get_idx s 0 h0
 obtain ⟨x,hx⟩:∃ x,(s[0]).toNat=x:=⟨_,rfl⟩
 rw [g0,hx] at hb HV
 obtain ⟨c1,c2⟩:=hb
 clear g0 hc
 obtain ⟨z,hz⟩:∃ z,s.size=z:=⟨_,rfl⟩
 have hzi:(s.size:Int)=(z:Int):=by rw [hz]
 obtain ⟨q1,q2,q3,q4,q5,q6,q7⟩:FstC (x:Int) false true true false true false true:=fstC_mk _ _ _ _ _ _ _ _ (by simp;omega)
 have b1:(x:Int) < 256:=by omega
 have b2:(194:Int)≤(x:Int):=by omega
 by_cases hl:z≤1
 ·have d1:decide ((z:Int)≤1)=true:=by simp;omega
  have HF:=hideIt (HS.out (by omega))
  clear HS HT HV
  go_enter Tryz.func207,Tryz.ntmps207
  go_wp2
  go_ret2
  exact ⟨by rw [HF.out];rfl,rfl⟩
 ·have d1:decide ((z:Int)≤1)=false:=by simp;omega
  have HT:=hideIt (HT.out (by omega))
  have HV:=hideIt (HV.out (by omega))
  have HB:=hideIt (Lb.accV_bound s ((x:Int) - 192) (by omega) (by omega))
  clear HS
  go_enter Tryz.func207,Tryz.ntmps207
  go_wp2
  go_loop [7,8] (fun v i=>∃ k:Nat,1≤k∧k≤1 + 1∧i=.int .i64 k∧v=.int .i64 (Lb.accV s ((x:Int) - 192) (k - 1))∧∀ j,j < k - 1→Lb.cont (s.get! (j + 1)).toNat=true) (fun _ i=>1 + 1 - (intOf i).toNat)
  case atStart=>exact ⟨1,by omega,by omega,rfl,rfl,fun j hj=>by omega⟩
  case round =>
   obtain ⟨k,hk1,hk2,rfl,rfl,hall⟩:=hrel
   obtain ⟨r1,r2⟩:=HB.out (k - 1) hall
   have HA:=hideIt (Lb.accV_next s ((x:Int) - 192) k hk1)
   have HL:=hideIt hall
   clear hall
   obtain ⟨V,hV⟩:∃ V,Lb.accV s ((x:Int) - 192) (k - 1)=V:=⟨_,rfl⟩
   rw [hV] at HA r1 r2
   by_cases hkn:k≤1
   ·have d2:(k:Int)≤1:=by omega
    have d3:decide ((k:Int)≤1)=true:=by simp;omega
    have hks:k < s.size:=by omega
    have i1:(k:Int) < (z:Int):=by omega
    have i0:(0:Int)≤(k:Int):=by omega
    have gk:=get_idx s k hks
    obtain ⟨y,hy⟩:∃ y,(s[k]).toNat=y:=⟨_,rfl⟩
    rw [gk,hy] at HA
    have HC:=hideIt (cont_of y rfl rfl)
    have y0:(y:Int) < 256:=by have:(s[k]).toNat < 256:=UInt8.toNat_lt _;omega
    have v2:V≤200000:=by
     have:(64:Int) ^ (k - 1)≤64 ^ 2:=by
      have:k - 1=0∨k - 1=1∨k - 1=2:=by omega
      rcases this with e | e | e <;> rw [e] <;> decide
     omega
    have HG:=hideIt (show Lb.cont (s.get! (k - 1 + 1)).toNat=Lb.cont y by rw [show k - 1 + 1=k by omega,gk,hy])
    clear r2 gk
    by_cases y1:y < 128
    ·have y2:decide ((y:Int) < 128)=true:=by simp;omega
     have HF:=hideIt (HT.out (k - 1) (by omega) (by rw [HG.out,HC.out,y2];rfl))
     rw [hV]
     clear HT HV HB HC HG
     go_wp2
     go_ret2
     exact ⟨by rw [HF.out];rfl,rfl⟩
    ·have y2:decide ((y:Int) < 128)=false:=by simp;omega
     by_cases y3:191 < y
     ·have y4:decide ((191:Int) < (y:Int))=true:=by simp;omega
      have HF:=hideIt (HT.out (k - 1) (by omega) (by rw [HG.out,HC.out,y2,y4];rfl))
      rw [hV]
      clear HT HV HB HC HG
      go_wp2
      go_ret2
      exact ⟨by rw [HF.out];rfl,rfl⟩
     ·have y4:decide ((191:Int) < (y:Int))=false:=by simp;omega
      have HF:=hideIt (show Lb.cont y=true by rw [HC.out,y2,y4];rfl)
      rw [hV]
      go_wp2
      go_round
      case rel =>
       refine ⟨k + 1,by omega,by omega,by go_num,?_,?_⟩
       ·rw [Nat.add_sub_cancel,HA.out];try rfl
       ·intro j hj
        by_cases e:j=k - 1
        ·rw [e,HG.out,HF.out]
        ·exact HL.out j (by omega)
      case measure=>simp [intOf];omega
   ·have d2:¬ (k:Int)≤1:=by omega
    have d3:decide ((k:Int)≤1)=false:=by simp;omega
    obtain rfl:k=1 + 1:=by omega
    have HF:=hideIt (HV.out (fun j hj=>HL.out j (by omega)))
    rw [show 1 + 1 - 1=1 from rfl] at hV
    rw [hV] at HF
    have HW:=hideIt (valC_of V 128 (1 + 1) rfl rfl rfl rfl)
    rw [show 1 + 1 - 1=1 from rfl,hV]
    clear hV HA HL HT HV HB r2
    by_cases u1:V < 128
    ·have u2:decide (V < 128)=true:=by simpa using u1
     rw [u2] at HW
     go_wp2
     go_ret2
     exact ⟨by rw [HF.out,HW.out];rfl,rfl⟩
    ·have u2:decide (V < 128)=false:=by simpa using u1
     rw [u2] at HW
     by_cases u3:55296≤V
     ·have u4:decide ((55296:Int)≤V)=true:=by simpa using u3
      rw [u4] at HW
      by_cases u5:V < 57344
      ·have u6:decide (V < (57344:Int))=true:=by simpa using u5
       rw [u6] at HW
       go_wp2
       go_ret2
       exact ⟨by rw [HF.out,HW.out];rfl,rfl⟩
      ·have u6:decide (V < (57344:Int))=false:=by simpa using u5
       rw [u6] at HW
       obtain ⟨b,hb⟩:∃ b,decide ((1114111:Int) < V)=b:=⟨_,rfl⟩
       rw [hb] at HW
       cases b
       all_goals
        go_wp2
        go_ret2
        exact ⟨by rw [HF.out,HW.out];rfl,rfl⟩
     ·have u4:decide ((55296:Int)≤V)=false:=by simpa using u3
      rw [u4] at HW
      have u7:decide ((1114111:Int) < V)=false:=by simp;omega
      rw [u7] at HW
      go_wp2
      go_ret2
      exact ⟨by rw [HF.out,HW.out];rfl,rfl⟩
set_option maxHeartbeats 3200000 in
set_option maxRecDepth 100000 in
theorem first_cls2 (s:ByteArray) (w:World) (hs:s.size≤maxLen) (h0:0 < s.size) (hb:224≤(s.get! 0).toNat∧(s.get! 0).toNat < 240) :
  Calls Tryz.prog 207 #[.string s] w fun e w'=>e=.returned (.tuple #[.int .i64 (Lb.fstS s).1,.int .i64 ((Lb.fstS s).2:Nat)])∧w'=w:=by
 unfold maxLen at hs
 have hc:Lb.Cls (s.get! 0).toNat 2 2048 224:=by unfold Lb.Cls;omega
 have HS:=hideIt (fun h=>Lb.fst_short hc h)
 have HT:=hideIt (fun h=>Lb.fst_stray hc h)
 have HV:=hideIt (fun h=>Lb.fst_val hc h)
 have g0:=get_idx s 0 h0
 obtain ⟨x,hx⟩:∃ x,(s[0]).toNat=x:=⟨_,rfl⟩
 rw [g0,hx] at hb HV
 obtain ⟨c1,c2⟩:=hb
 clear g0 hc
 obtain ⟨z,hz⟩:∃ z,s.size=z:=⟨_,rfl⟩
 have hzi:(s.size:Int)=(z:Int):=by rw [hz]
 obtain ⟨q1,q2,q3,q4,q5,q6,q7⟩:FstC (x:Int) false true false true true false true:=fstC_mk _ _ _ _ _ _ _ _ (by simp;omega)
 have b1:(x:Int) < 256:=by omega
 have b2:(224:Int)≤(x:Int):=by omega
 by_cases hl:z≤2
 ·have d1:decide ((z:Int)≤2)=true:=by simp;omega
  have HF:=hideIt (HS.out (by omega))
  clear HS HT HV
  go_enter Tryz.func207,Tryz.ntmps207
  go_wp2
  go_ret2
  exact ⟨by rw [HF.out];rfl,rfl⟩
 ·have d1:decide ((z:Int)≤2)=false:=by simp;omega
  have HT:=hideIt (HT.out (by omega))
  have HV:=hideIt (HV.out (by omega))
  have HB:=hideIt (Lb.accV_bound s ((x:Int) - 224) (by omega) (by omega))
  clear HS
  go_enter Tryz.func207,Tryz.ntmps207
  go_wp2
  go_loop [7,8] (fun v i=>∃ k:Nat,1≤k∧k≤2 + 1∧i=.int .i64 k∧v=.int .i64 (Lb.accV s ((x:Int) - 224) (k - 1))∧∀ j,j < k - 1→Lb.cont (s.get! (j + 1)).toNat=true) (fun _ i=>2 + 1 - (intOf i).toNat)
  case atStart=>exact ⟨1,by omega,by omega,rfl,rfl,fun j hj=>by omega⟩
  case round =>
   obtain ⟨k,hk1,hk2,rfl,rfl,hall⟩:=hrel
   obtain ⟨r1,r2⟩:=HB.out (k - 1) hall
   have HA:=hideIt (Lb.accV_next s ((x:Int) - 224) k hk1)
   have HL:=hideIt hall
   clear hall
   obtain ⟨V,hV⟩:∃ V,Lb.accV s ((x:Int) - 224) (k - 1)=V:=⟨_,rfl⟩
   rw [hV] at HA r1 r2
   by_cases hkn:k≤2
   ·have d2:(k:Int)≤2:=by omega
    have d3:decide ((k:Int)≤2)=true:=by simp;omega
    have hks:k < s.size:=by omega
    have i1:(k:Int) < (z:Int):=by omega
    have i0:(0:Int)≤(k:Int):=by omega
    have gk:=get_idx s k hks
    obtain ⟨y,hy⟩:∃ y,(s[k]).toNat=y:=⟨_,rfl⟩
    rw [gk,hy] at HA
    have HC:=hideIt (cont_of y rfl rfl)
    have y0:(y:Int) < 256:=by have:(s[k]).toNat < 256:=UInt8.toNat_lt _;omega
    have v2:V≤200000:=by
     have:(64:Int) ^ (k - 1)≤64 ^ 2:=by
      have:k - 1=0∨k - 1=1∨k - 1=2:=by omega
      rcases this with e | e | e <;> rw [e] <;> decide
     omega
    have HG:=hideIt (show Lb.cont (s.get! (k - 1 + 1)).toNat=Lb.cont y by rw [show k - 1 + 1=k by omega,gk,hy])
    clear r2 gk
    by_cases y1:y < 128
    ·have y2:decide ((y:Int) < 128)=true:=by simp;omega
     have HF:=hideIt (HT.out (k - 1) (by omega) (by rw [HG.out,HC.out,y2];rfl))
     rw [hV]
     clear HT HV HB HC HG
     go_wp2
     go_ret2
     exact ⟨by rw [HF.out];rfl,rfl⟩
    ·have y2:decide ((y:Int) < 128)=false:=by simp;omega
     by_cases y3:191 < y
     ·have y4:decide ((191:Int) < (y:Int))=true:=by simp;omega
      have HF:=hideIt (HT.out (k - 1) (by omega) (by rw [HG.out,HC.out,y2,y4];rfl))
      rw [hV]
      clear HT HV HB HC HG
      go_wp2
      go_ret2
      exact ⟨by rw [HF.out];rfl,rfl⟩
     ·have y4:decide ((191:Int) < (y:Int))=false:=by simp;omega
      have HF:=hideIt (show Lb.cont y=true by rw [HC.out,y2,y4];rfl)
      rw [hV]
      go_wp2
      go_round
      case rel =>
       refine ⟨k + 1,by omega,by omega,by go_num,?_,?_⟩
       ·rw [Nat.add_sub_cancel,HA.out];try rfl
       ·intro j hj
        by_cases e:j=k - 1
        ·rw [e,HG.out,HF.out]
        ·exact HL.out j (by omega)
      case measure=>simp [intOf];omega
   ·have d2:¬ (k:Int)≤2:=by omega
    have d3:decide ((k:Int)≤2)=false:=by simp;omega
    obtain rfl:k=2 + 1:=by omega
    have HF:=hideIt (HV.out (fun j hj=>HL.out j (by omega)))
    rw [show 2 + 1 - 1=2 from rfl] at hV
    rw [hV] at HF
    have HW:=hideIt (valC_of V 2048 (2 + 1) rfl rfl rfl rfl)
    rw [show 2 + 1 - 1=2 from rfl,hV]
    clear hV HA HL HT HV HB r2
    by_cases u1:V < 2048
    ·have u2:decide (V < 2048)=true:=by simpa using u1
     rw [u2] at HW
     go_wp2
     go_ret2
     exact ⟨by rw [HF.out,HW.out];rfl,rfl⟩
    ·have u2:decide (V < 2048)=false:=by simpa using u1
     rw [u2] at HW
     by_cases u3:55296≤V
     ·have u4:decide ((55296:Int)≤V)=true:=by simpa using u3
      rw [u4] at HW
      by_cases u5:V < 57344
      ·have u6:decide (V < (57344:Int))=true:=by simpa using u5
       rw [u6] at HW
       go_wp2
       go_ret2
       exact ⟨by rw [HF.out,HW.out];rfl,rfl⟩
      ·have u6:decide (V < (57344:Int))=false:=by simpa using u5
       rw [u6] at HW
       obtain ⟨b,hb⟩:∃ b,decide ((1114111:Int) < V)=b:=⟨_,rfl⟩
       rw [hb] at HW
       cases b
       all_goals
        go_wp2
        go_ret2
        exact ⟨by rw [HF.out,HW.out];rfl,rfl⟩
     ·have u4:decide ((55296:Int)≤V)=false:=by simpa using u3
      rw [u4] at HW
      have u7:decide ((1114111:Int) < V)=false:=by simp;omega
      rw [u7] at HW
      go_wp2
      go_ret2
      exact ⟨by rw [HF.out,HW.out];rfl,rfl⟩
set_option maxHeartbeats 3200000 in
set_option maxRecDepth 100000 in
theorem first_cls3 (s:ByteArray) (w:World) (hs:s.size≤maxLen) (h0:0 < s.size) (hb:240≤(s.get! 0).toNat∧(s.get! 0).toNat < 245) :
  Calls Tryz.prog 207 #[.string s] w fun e w'=>e=.returned (.tuple #[.int .i64 (Lb.fstS s).1,.int .i64 ((Lb.fstS s).2:Nat)])∧w'=w:=by
 unfold maxLen at hs
 have hc:Lb.Cls (s.get! 0).toNat 3 65536 240:=by unfold Lb.Cls;omega
 have HS:=hideIt (fun h=>Lb.fst_short hc h)
 have HT:=hideIt (fun h=>Lb.fst_stray hc h)
 have HV:=hideIt (fun h=>Lb.fst_val hc h)
 have g0:=get_idx s 0 h0
 obtain ⟨x,hx⟩:∃ x,(s[0]).toNat=x:=⟨_,rfl⟩
 rw [g0,hx] at hb HV
 obtain ⟨c1,c2⟩:=hb
 clear g0 hc
 obtain ⟨z,hz⟩:∃ z,s.size=z:=⟨_,rfl⟩
 have hzi:(s.size:Int)=(z:Int):=by rw [hz]
 obtain ⟨q1,q2,q3,q4,q5,q6,q7⟩:FstC (x:Int) false true false true false true true:=fstC_mk _ _ _ _ _ _ _ _ (by simp;omega)
 have b1:(x:Int) < 256:=by omega
 have b2:(240:Int)≤(x:Int):=by omega
 by_cases hl:z≤3
 ·have d1:decide ((z:Int)≤3)=true:=by simp;omega
  have HF:=hideIt (HS.out (by omega))
  clear HS HT HV
  go_enter Tryz.func207,Tryz.ntmps207
  go_wp2
  go_ret2
  exact ⟨by rw [HF.out];rfl,rfl⟩
 ·have d1:decide ((z:Int)≤3)=false:=by simp;omega
  have HT:=hideIt (HT.out (by omega))
  have HV:=hideIt (HV.out (by omega))
  have HB:=hideIt (Lb.accV_bound s ((x:Int) - 240) (by omega) (by omega))
  clear HS
  go_enter Tryz.func207,Tryz.ntmps207
  go_wp2
  go_loop [7,8] (fun v i=>∃ k:Nat,1≤k∧k≤3 + 1∧i=.int .i64 k∧v=.int .i64 (Lb.accV s ((x:Int) - 240) (k - 1))∧∀ j,j < k - 1→Lb.cont (s.get! (j + 1)).toNat=true) (fun _ i=>3 + 1 - (intOf i).toNat)
  case atStart=>exact ⟨1,by omega,by omega,rfl,rfl,fun j hj=>by omega⟩
  case round =>
   obtain ⟨k,hk1,hk2,rfl,rfl,hall⟩:=hrel
   obtain ⟨r1,r2⟩:=HB.out (k - 1) hall
   have HA:=hideIt (Lb.accV_next s ((x:Int) - 240) k hk1)
   have HL:=hideIt hall
   clear hall
   obtain ⟨V,hV⟩:∃ V,Lb.accV s ((x:Int) - 240) (k - 1)=V:=⟨_,rfl⟩
   rw [hV] at HA r1 r2
   by_cases hkn:k≤3
   ·have d2:(k:Int)≤3:=by omega
    have d3:decide ((k:Int)≤3)=true:=by simp;omega
    have hks:k < s.size:=by omega
    have i1:(k:Int) < (z:Int):=by omega
    have i0:(0:Int)≤(k:Int):=by omega
    have gk:=get_idx s k hks
    obtain ⟨y,hy⟩:∃ y,(s[k]).toNat=y:=⟨_,rfl⟩
    rw [gk,hy] at HA
    have HC:=hideIt (cont_of y rfl rfl)
    have y0:(y:Int) < 256:=by have:(s[k]).toNat < 256:=UInt8.toNat_lt _;omega
    have v2:V≤200000:=by
     have:(64:Int) ^ (k - 1)≤64 ^ 2:=by
      have:k - 1=0∨k - 1=1∨k - 1=2:=by omega
      rcases this with e | e | e <;> rw [e] <;> decide
     omega
    have HG:=hideIt (show Lb.cont (s.get! (k - 1 + 1)).toNat=Lb.cont y by rw [show k - 1 + 1=k by omega,gk,hy])
    clear r2 gk
    by_cases y1:y < 128
    ·have y2:decide ((y:Int) < 128)=true:=by simp;omega
     have HF:=hideIt (HT.out (k - 1) (by omega) (by rw [HG.out,HC.out,y2];rfl))
     rw [hV]
     clear HT HV HB HC HG
     go_wp2
     go_ret2
     exact ⟨by rw [HF.out];rfl,rfl⟩
    ·have y2:decide ((y:Int) < 128)=false:=by simp;omega
     by_cases y3:191 < y
     ·have y4:decide ((191:Int) < (y:Int))=true:=by simp;omega
      have HF:=hideIt (HT.out (k - 1) (by omega) (by rw [HG.out,HC.out,y2,y4];rfl))
      rw [hV]
      clear HT HV HB HC HG
      go_wp2
      go_ret2
      exact ⟨by rw [HF.out];rfl,rfl⟩
     ·have y4:decide ((191:Int) < (y:Int))=false:=by simp;omega
      have HF:=hideIt (show Lb.cont y=true by rw [HC.out,y2,y4];rfl)
      rw [hV]
      go_wp2
      go_round
      case rel =>
       refine ⟨k + 1,by omega,by omega,by go_num,?_,?_⟩
       ·rw [Nat.add_sub_cancel,HA.out];try rfl
       ·intro j hj
        by_cases e:j=k - 1
        ·rw [e,HG.out,HF.out]
        ·exact HL.out j (by omega)
      case measure=>simp [intOf];omega
   ·have d2:¬ (k:Int)≤3:=by omega
    have d3:decide ((k:Int)≤3)=false:=by simp;omega
    obtain rfl:k=3 + 1:=by omega
    have HF:=hideIt (HV.out (fun j hj=>HL.out j (by omega)))
    rw [show 3 + 1 - 1=3 from rfl] at hV
    rw [hV] at HF
    have HW:=hideIt (valC_of V 65536 (3 + 1) rfl rfl rfl rfl)
    rw [show 3 + 1 - 1=3 from rfl,hV]
    clear hV HA HL HT HV HB r2
    by_cases u1:V < 65536
    ·have u2:decide (V < 65536)=true:=by simpa using u1
     rw [u2] at HW
     go_wp2
     go_ret2
     exact ⟨by rw [HF.out,HW.out];rfl,rfl⟩
    ·have u2:decide (V < 65536)=false:=by simpa using u1
     rw [u2] at HW
     by_cases u3:55296≤V
     ·have u4:decide ((55296:Int)≤V)=true:=by simpa using u3
      rw [u4] at HW
      by_cases u5:V < 57344
      ·have u6:decide (V < (57344:Int))=true:=by simpa using u5
       rw [u6] at HW
       go_wp2
       go_ret2
       exact ⟨by rw [HF.out,HW.out];rfl,rfl⟩
      ·have u6:decide (V < (57344:Int))=false:=by simpa using u5
       rw [u6] at HW
       obtain ⟨b,hb⟩:∃ b,decide ((1114111:Int) < V)=b:=⟨_,rfl⟩
       rw [hb] at HW
       cases b
       all_goals
        go_wp2
        go_ret2
        exact ⟨by rw [HF.out,HW.out];rfl,rfl⟩
     ·have u4:decide ((55296:Int)≤V)=false:=by simpa using u3
      rw [u4] at HW
      have u7:decide ((1114111:Int) < V)=false:=by simp;omega
      rw [u7] at HW
      go_wp2
      go_ret2
      exact ⟨by rw [HF.out,HW.out];rfl,rfl⟩
theorem first_any (s:ByteArray) (w:World) (h0:0 < s.size) (hs:s.size≤maxLen) :
  Calls Tryz.prog 207 #[.string s] w fun e w'=>e=.returned (.tuple #[.int .i64 (Lb.refV (Utf8.decode s 0)),.int .i64 ((Utf8.decode s 0).2:Nat)])∧w'=w:=by
 have e:Lb.fstS s=(Lb.refV (Utf8.decode s 0),(Utf8.decode s 0).2):=Lb.first_eq s
 have e1:Lb.refV (Utf8.decode s 0)=(Lb.fstS s).1:=by rw [e]
 have e2:(Utf8.decode s 0).2=(Lb.fstS s).2:=by rw [e]
 rw [e1,e2]
 by_cases h1:(s.get! 0).toNat < 194∨245≤(s.get! 0).toNat
 ·exact first_low s w h0 (by omega)
 ·by_cases h2:(s.get! 0).toNat < 224
  ·exact first_cls1 s w hs h0 (by omega)
  ·by_cases h3:(s.get! 0).toNat < 240
   ·exact first_cls2 s w hs h0 (by omega)
   ·exact first_cls3 s w hs h0 (by omega)
end Go.Proofs.YtogjlepdejonpaaGreatDoor
namespace Go.Proofs.YtogjlepdejonpaaGreatDoor
open Go.RowKit
theorem cut_whole (s:ByteArray):s.extract 0 s.size=s:=by
 have:(s.extract 0 s.size).data.toList=s.data.toList:=by
  have h:s.data.size=s.size:=rfl
  rw [ByteArray.data_extract,← h]
  simp
  rw [List.take_of_length_le (by simp)]
 rw [← bs_data (s.extract 0 s.size),this,bs_data]
theorem refV_neg (d:Nat × Nat) (h:Lb.isBad d=true):Lb.refV d=-1:=by rw [Lb.refV,if_pos h]
theorem refV_pos (d:Nat × Nat) (h:Lb.isBad d=false):¬ Lb.refV d < 0:=by rw [Lb.refV,h];simp
set_option maxHeartbeats 1600000 in
set_option maxRecDepth 100000 in
theorem refwords_any (s:ByteArray) (w:World) (hs:s.size≤1000000) :
  Calls Tryz.prog 209 #[.string s] w fun e w'=>e=.returned (.tuple #[.int .i64 (Lb.good s s.size 0:Nat),.int .i64 (Lb.bad s s.size 0:Nat)])∧w'=w:=by
 obtain ⟨n,hn⟩:∃ n,Lb.good s s.size 0=n:=⟨_,rfl⟩
 obtain ⟨m,hm⟩:∃ m,Lb.bad s s.size 0=m:=⟨_,rfl⟩
 rw [hn,hm]
 have HN:=hideIt hn
 have HM:=hideIt hm
 clear hn hm
 go_enter Tryz.func209,Tryz.ntmps209
 go_wp2
 go_loopw [0,4,5,6,7] (fun t u v _ _ wr=>∃ pos f a b:Nat,wr=w∧t=.string (s.extract pos s.size)∧u=.int .i64 a∧v=.int .i64 b∧a≤pos∧b≤pos∧pos≤s.size∧s.size≤pos + f∧a + Lb.good s f pos=n∧b + Lb.bad s f pos=m) (fun t _ _ _ _ _=>(match t with | .string u=>u.size | _=>0))
 case atStart=>exact ⟨0,s.size,0,0,rfl,by rw [cut_whole],rfl,rfl,by omega,by omega,by omega,by omega,by rw [HN.out];omega,by rw [HM.out];omega⟩
 case round =>
  obtain ⟨pos,f,a,b,rfl,rfl,rfl,rfl,ha,hb,hpl,hf,h1,h2⟩:=hrel
  have htz:=Lb.size_cut s pos
  have hdc:=Lb.decode_cut s pos
  have hcc:=Lb.cut_cut s pos
  obtain ⟨t,ht⟩:∃ t,s.extract pos s.size=t:=⟨_,rfl⟩
  rw [ht] at htz hdc hcc ⊢
  by_cases hp:pos < s.size
  ·obtain ⟨g,hg,heb,heg⟩:=count_step hp hf h1 h2
   have hw:=Lb.width_pos s pos hp
   have hwd:=Lb.decode_width s pos hp
   have HB:=hideIt (fun w=>first_any t w (by omega) (by unfold maxLen;omega))
   have hneg:=refV_neg (Utf8.decode s pos)
   have hpos:=refV_pos (Utf8.decode s pos)
   rw [hdc] at HB
   obtain ⟨d,hd⟩:∃ d,Utf8.decode s pos=d:=⟨_,rfl⟩
   rw [hd] at hg heb heg hw hwd HB hneg hpos
   obtain ⟨x,k⟩:=d
   simp only at hg heb heg hw hwd HB hneg hpos
   obtain ⟨v,hv⟩:∃ v,Lb.refV (x,k)=v:=⟨_,rfl⟩
   rw [hv] at HB hneg hpos
   have HT:=hideIt ht
   have HCC:=hideIt (hcc k)
   have HEB:=hideIt heb
   have HEG:=hideIt heg
   have b2:(a:Int)≤1000000:=by omega
   have b3:(b:Int)≤1000000:=by omega
   have i1:(0:Int) < (t.size:Int):=by omega
   have i2:(0:Int)≤(k:Int):=by omega
   have i3:(k:Int)≤(t.size:Int):=by omega
   have HTZ:=hideIt htz
   clear htz hd heb heg hf hdc hcc hv ht h1 h2
   obtain ⟨y,hy⟩:∃ y,Lb.isBad (x,k)=y:=⟨_,rfl⟩
   cases y
   ·have hvp:=hpos hy
    have hvd:decide (v < 0)=false:=by simp;omega
    have HE:=hideIt (HEG.out hy)
    clear hs hpos hneg HEB HEG hy
    go_wp2_with (first | (go_at_call 207;refine (HB.out _).mono ?_;rintro e wx ⟨rfl,hwx⟩;obtain rfl:=hwx.symm))
    go_roundw
    case rel=>exact ⟨pos + k,g,a + 1,b,by first | rfl | trivial,by rw [HCC.out],by go_num,rfl,by omega,by omega,by omega,hg,HE.out.1,HE.out.2⟩
    case measure=>simp;omega
   ·have hvn:=hneg hy
    have hvd:decide (v < 0)=true:=by simp;omega
    clear hvn
    have HE:=hideIt (HEB.out hy)
    clear hs hpos hneg HEB HEG hy
    go_wp2_with (first | (go_at_call 207;refine (HB.out _).mono ?_;rintro e wx ⟨rfl,hwx⟩;obtain rfl:=hwx.symm))
    go_roundw
    case rel=>exact ⟨pos + k,g,a,b + 1,by first | rfl | trivial,by rw [HCC.out],rfl,by go_num,by omega,by omega,by omega,hg,HE.out.1,HE.out.2⟩
    case measure=>simp;omega
  ·have z0:t.size=0:=by omega
   have i1:¬ (0:Int) < (t.size:Int):=by omega
   have e1:a=n:=by rw [Lb.good,Lb.runes_end s f pos hp] at h1;simpa using h1
   have e2:b=m:=by rw [Lb.bad,Lb.runes_end s f pos hp] at h2;simpa using h2
   subst e1 e2
   clear h1 h2 HN HM hcc hdc ht
   go_wp2
   go_ret2
   exact ⟨rfl,rfl⟩
end Go.Proofs.YtogjlepdejonpaaGreatDoor
namespace Go.Proofs.YtogjlepdejonpaaGreatDoor
namespace Ob
open Go.RowKit
def fsl (L:List UInt8):List UInt8 × List UInt8 × Bool:=match cutc 10 L with
 | none=>(L,[],false)
 | some (a,r)=>(a,r,true)
def hasW (wd a:List UInt8):Bool:=(wd ++ [32]).isPrefixOf a
def tkT (wd L:List UInt8):List UInt8:=if hasW wd (fsl L).1=true then (fsl L).1.drop (wd.length + 1) else (fsl L).1
def tkR (L:List UInt8):List UInt8:=(fsl L).2.1
def tkO (wd L:List UInt8):Bool:=(fsl L).2.2 && hasW wd (fsl L).1
theorem fsl_len (L:List UInt8):(fsl L).1.length≤L.length∧(fsl L).2.1.length≤L.length∧((fsl L).1.length + (fsl L).2.1.length≤L.length):=by
 unfold fsl
 cases h:cutc 10 L with
 | none=>simp
 | some p =>
  obtain ⟨a,r⟩:=p
  obtain ⟨e,-⟩:=cutc_some 10 L a r h
  have:=congrArg List.length e
  simp at this
  simp only
  omega
theorem tkT_len (wd L:List UInt8):(tkT wd L).length≤L.length:=by
 have:=(fsl_len L).1
 unfold tkT
 split
 ·simp;omega
 ·exact this
theorem tkR_len (L:List UInt8):(tkR L).length≤L.length:=(fsl_len L).2.1
def txO (L:List UInt8):Bool:=([10]:List UInt8).isPrefixOf L
def txT (L:List UInt8):List UInt8:=if txO L=true then L.drop 1 else L
theorem txT_len (L:List UInt8):(txT L).length≤L.length:=by
 unfold txT
 split
 ·simp
 ·exact Nat.le_refl _
def objectW:List UInt8:=[111,98,106,101,99,116]
def kindW:List UInt8:=[107,105,110,100]
def nameW:List UInt8:=[110,97,109,101]
def tagsW:List UInt8:=[116,97,103,115,47]
structure Tg where
 tgt:ByteArray
 kd:Int
 nm:ByteArray
 tx:ByteArray
def tgV (t:Tg):Value:=.agg #[.string t.tgt,.int .i64 t.kd,.string t.nm,.string t.tx]
def tgZ:Tg:=⟨⟨#[]⟩,0,⟨#[]⟩,⟨#[]⟩⟩
def idB (s:ByteArray):Bool:=decide (s.size=32)
def textB (s:ByteArray):Bool:=decide (s.size≤4096) && decide (Lb.bad s s.size 0=0)
def tagN (s:ByteArray):Bool:=headB (bs tagsW ++ s) || tagB (bs tagsW ++ s)
def tagE (t:Tg):Int:=if 1≤t.kd∧t.kd≤4 then (if (idB t.tgt && tagN t.nm && textB t.tx)=true then 0 else 6) else 70
theorem bs_extract (l:List UInt8) (a b:Nat):(bs l).extract a b=bs ((l.drop a).take (b - a)):=by
 apply ByteArray.ext
 apply Array.toList_inj.1
 simp [bs,List.extract_eq_take_drop]
end Ob
end Go.Proofs.YtogjlepdejonpaaGreatDoor
namespace Go.Proofs.YtogjlepdejonpaaGreatDoor
namespace Ob
open Go.RowKit Go.Shelf
set_option maxHeartbeats 400000 in
theorem mayBeID_any (s:ByteArray) (w:World):Calls Tryz.prog 217 #[.string s] w fun e w'=>e=.returned (.bool (idB s))∧w'=w:=by
 by_cases h:s.size=32
 ·have h1:(s.size:Int)=32:=by omega
  have HI:Hid (idB s=true):=hideIt (decide_eq_true h)
  go_enter Tryz.func217,Tryz.ntmps217
  go_wp2
  go_ret
  exact ⟨by rw [HI.out] <;> rfl,rfl⟩
 ·have h1:((s.size:Int) == 32)=false:=by
   have:¬ (s.size:Int)=32:=by omega
   simpa using this
  have HI:Hid (idB s=false):=hideIt (decide_eq_false h)
  go_enter Tryz.func217,Tryz.ntmps217
  go_wp2
  go_ret
  exact ⟨by rw [HI.out] <;> rfl,rfl⟩
set_option maxHeartbeats 400000 in
theorem mayBeText_any (s:ByteArray) (w:World) (hs:s.size≤maxLen):Calls Tryz.prog 222 #[.string s] w fun e w'=>e=.returned (.bool (textB s))∧Below w.heap.size w w':=by
 have HW:=hideIt (words_any s w hs)
 have HT:Hid (textB s=(decide (s.size≤4096) && decide (Lb.bad s s.size 0=0))):=rfl
 obtain ⟨g,hg⟩:∃ g,Lb.good s s.size 0=g:=⟨_,rfl⟩
 obtain ⟨b,hb⟩:∃ b,Lb.bad s s.size 0=b:=⟨_,rfl⟩
 rw [hg,hb] at HW
 rw [hb] at HT
 clear hg hb hs
 by_cases h:4096 < s.size
 ·have h1:(4096:Int) < (s.size:Int):=by omega
  rw [decide_eq_false (by omega),Bool.false_and] at HT
  go_enter Tryz.func222,Tryz.ntmps222
  go_wp2
  go_ret
  exact ⟨by rw [HT.out] <;> rfl,Below.refl _ _⟩
 ·have h1:¬ (4096:Int) < (s.size:Int):=by omega
  rw [decide_eq_true (by omega),Bool.true_and] at HT
  by_cases hz:b=0
  ·have hz1:((b:Int) == 0)=true:=by simp [hz]
   rw [decide_eq_true hz] at HT
   go_enter Tryz.func222,Tryz.ntmps222
   go_wp2_with (first | (go_at_call 267;refine HW.out.mono ?_;rintro e w1 ⟨rfl,hb1⟩))
   go_ret
   exact ⟨by rw [HT.out];simp,hb1⟩
  ·have hz1:((b:Int) == 0)=false:=by simpa using hz
   rw [decide_eq_false hz] at HT
   go_enter Tryz.func222,Tryz.ntmps222
   go_wp2_with (first | (go_at_call 267;refine HW.out.mono ?_;rintro e w1 ⟨rfl,hb1⟩))
   go_ret
   exact ⟨by rw [HT.out];simp,hb1⟩
structure Rdr (w:World) (N:Nat) (s:ByteArray) (b:Bool):Prop where
 blk:w.heap[N]? = some (.cells #[.string s,.bool b] 204 (0,0))
theorem Rdr.lt {w:World} {N:Nat} {s:ByteArray} {b:Bool} (h:Rdr w N s b):N < w.heap.size:=by
 rcases Nat.lt_or_ge N w.heap.size with h' | h'
 ·exact h'
 ·have:=h.blk;simp [Array.getElem?_eq_none h'] at this
theorem cellAt {w:World} {b:Nat} {cs:Array Value} {t:TypeId} {i:Nat} {v:Value} (h:w.heap[b]? = some (.cells cs t (0,0))) (hv:cs[i]? = some v):w.cell? ⟨b,i,none⟩=some v:=by
 simp [World.cell?,h,hv]
theorem Rdr.c0 {w:World} {N:Nat} {s:ByteArray} {b:Bool} (h:Rdr w N s b):w.cell? ⟨N,0,none⟩=some (.string s):=cellAt h.blk rfl
theorem Rdr.c1 {w:World} {N:Nat} {s:ByteArray} {b:Bool} (h:Rdr w N s b):w.cell? ⟨N,1,none⟩=some (.bool b):=cellAt h.blk rfl
theorem Rdr.f0 {w:World} {N:Nat} {s:ByteArray} {b:Bool} (h:Rdr w N s b):w.frozen? ⟨N,0,none⟩=false:=Lib.frozen_of_heap h.blk 0
theorem Rdr.f1 {w:World} {N:Nat} {s:ByteArray} {b:Bool} (h:Rdr w N s b):w.frozen? ⟨N,1,none⟩=false:=Lib.frozen_of_heap h.blk 1
theorem Rdr.below {w w':World} {N:Nat} {s:ByteArray} {b:Bool} (h:Rdr w N s b) (hb:Below w.heap.size w w'):Rdr w' N s b:=⟨(hb.block N h.lt).trans h.blk⟩
theorem cutV_fsl (L:List UInt8):cutV 10 L=.tuple #[.string (bs (fsl L).1),.string (bs (fsl L).2.1),.bool (fsl L).2.2]:=by
 unfold cutV fsl
 cases cutc 10 L with
 | none=>rfl
 | some p=>rfl
theorem pre_bs (a p:List UInt8):pre (bs a) (bs p)=p.isPrefixOf a:=by
 unfold pre
 rw [bs_size,bs_size,bs_extract,ByteArray.toList_eq,ByteArray.toList_eq,bs_list,bs_list]
 simp only [List.drop_zero,Nat.sub_zero]
 cases h:p.isPrefixOf a with
 | true =>
  obtain ⟨t,rfl⟩:=List.isPrefixOf_iff_prefix.1 h
  simp
 | false =>
  by_cases hl:p.length≤a.length
  ·have:a.take p.length≠p:=fun e=>by
    have h2:p <+: a:=by rw [← e];exact List.take_prefix _ _
    rw [List.isPrefixOf_iff_prefix.2 h2] at h
    cases h
   have h3:(a.take p.length == p)=false:=by simpa using this
   rw [h3];simp
  ·rw [decide_eq_false hl];simp
theorem cutp_c (a p:List UInt8) (w:World) :
  Calls Tryz.prog 219 #[.string (bs a),.string (bs p)] w fun e w'=>e=.returned (.tuple #[.string (bs (if p.isPrefixOf a=true then a.drop p.length else a)),.bool (p.isPrefixOf a)])∧w'=w:=by
 have h:=cutPrefix_any (bs a) (bs p) w
 rw [pre_bs,bs_size,bs_size,bs_extract] at h
 have e:(if p.isPrefixOf a=true then bs ((a.drop p.length).take (a.length - p.length)) else bs a)=bs (if p.isPrefixOf a=true then a.drop p.length else a):=by
  split
  ·rw [List.take_of_length_le (by simp)]
  ·rfl
 rw [e] at h
 exact h
theorem grown_of {w w1:World} (h:Below w.heap.size w w1) (r:Option Nat):w.grownBy w1 r:=⟨h.os,h.tape,h.output,h.size,fun k hk _=>h.block k hk⟩
theorem Rdr.cast {w:World} {N:Nat} {s:ByteArray} {b c:Bool} (h:Rdr w N s b) (e:b=c):Rdr w N s c:=e ▸ h
theorem Rdr.set0 {w:World} {N:Nat} {s:ByteArray} {b:Bool} (h:Rdr w N s b) (z:ByteArray):Rdr (w.setCell ⟨N,0,none⟩ (.string z)) N z b:=⟨by
 simp [World.setCell,h.blk,Array.getElem?_modify]⟩
theorem Rdr.set1 {w:World} {N:Nat} {s:ByteArray} {b:Bool} (h:Rdr w N s b) (c:Bool):Rdr (w.setCell ⟨N,1,none⟩ (.bool c)) N s c:=⟨by
 simp [World.setCell,h.blk,Array.getElem?_modify]⟩
theorem grown_set (w:World) (b i:Nat) (v:Value):w.grownBy (w.setCell ⟨b,i,none⟩ v) (some b) :=
 ⟨rfl,rfl,rfl,by simp [World.setCell],fun k _ hk=>Below.heap_setCell _ _ _ _ (fun e=>hk (by rw [e]))⟩
set_option maxHeartbeats 1600000 in
set_option maxRecDepth 100000 in
theorem take_any (N:Nat) (wd L:List UInt8) (bd:Bool) (w:World) (hR:Rdr w N (bs L) bd) (hL:L.length≤1000000) (hw:wd.length≤1000) (hm:MaxAt w) :
  Calls Tryz.prog 171 #[.pointer (some ⟨N,0,none⟩),.string (bs wd)] w fun e w'=>e=.returned (.string (bs (tkT wd L)))∧Rdr w' N (bs (tkR L)) (bd || !tkO wd L)∧w.grownBy w' (some N):=by
 have HM:=hideIt hm
 have HR:=hideIt hR
 have c0:=hR.c0
 have HC:=hideIt (sCut_any L 10 hL w hm)
 rw [cutV_fsl] at HC
 have HP:Hid (∀ w,Calls Tryz.prog 219 #[.string (bs (fsl L).1),.string (bs (wd ++ [32]))] w fun e w'=>e=.returned (.tuple #[.string (bs (tkT wd L)),.bool (hasW wd (fsl L).1)])∧w'=w):=hideIt (fun w=>by
  have h:=cutp_c (fsl L).1 (wd ++ [32]) w
  have e1:(if (wd ++ [32]).isPrefixOf (fsl L).1=true then (fsl L).1.drop (wd ++ [32]).length else (fsl L).1)=tkT wd L:=by unfold tkT hasW;simp
  rw [e1] at h
  exact h)
 have HO:Hid (tkO wd L=((fsl L).2.2 && hasW wd (fsl L).1)):=rfl
 have HQ:Hid (bs wd ++ ⟨#[32]⟩=bs (wd ++ [32])):=hideIt (by rw [show (⟨#[32]⟩:ByteArray)=bs [32] from rfl,bs_append])
 have HTR:Hid (tkR L=(fsl L).2.1):=rfl
 have sz:(bs wd).size≤1000:=by rw [bs_size];exact hw
 obtain ⟨en,hen⟩:∃ en,(fsl L).2.2=en:=⟨_,rfl⟩
 obtain ⟨ha,hha⟩:∃ ha,hasW wd (fsl L).1=ha:=⟨_,rfl⟩
 obtain ⟨F,hF⟩:∃ F,bs (fsl L).1=F:=⟨_,rfl⟩
 obtain ⟨Z,hZ⟩:∃ Z,bs (fsl L).2.1=Z:=⟨_,rfl⟩
 obtain ⟨T,hT⟩:∃ T,bs (tkT wd L)=T:=⟨_,rfl⟩
 obtain ⟨B,hB⟩:∃ B,bs (wd ++ [32])=B:=⟨_,rfl⟩
 obtain ⟨D,hD⟩:∃ D,bs wd=D:=⟨_,rfl⟩
 rw [hen] at HC HO
 rw [hha] at HP HO
 rw [hF] at HC HP
 rw [hZ] at HC
 rw [hT] at HP
 rw [hB] at HP HQ
 rw [hD] at sz HQ
 rw [hT,hD,HTR.out,hZ,HO.out]
 have t1:¬ 9223372036854775807 < D.size + 1:=by omega
 have q:=HQ.out
 clear hm hR hen hha hF hZ hT hB hD HO HTR HQ
 go_enter Tryz.func171,Tryz.ntmps171
 go_wp2_with (first | (go_at_call 129;refine HC.out.mono ?_;rintro e w1 ⟨rfl,hb1⟩;have HR1:=hideIt (HR.out.below hb1);have d0:=HR1.out.c0;have c1:=HR1.out.c1;have f0:=HR1.out.f0;have f1:=HR1.out.f1) | (go_at_call 219;refine (HP.out _).mono ?_;rintro e w2 ⟨rfl,rfl⟩))
 all_goals go_ret
 all_goals refine ⟨rfl,Rdr.cast ((HR1.out.set1 _).set0 Z) (by simp_all),((grown_of hb1 _).trans (grown_set _ _ _ _)).trans (grown_set _ _ _ _)⟩
end Ob
end Go.Proofs.YtogjlepdejonpaaGreatDoor
namespace Go.Proofs.YtogjlepdejonpaaGreatDoor
namespace Ob
open Go.RowKit Go.Shelf
theorem unhex_c (L:List UInt8) (w:World) (h:L.length≤1000000) :
  Calls Tryz.prog 107 #[.string (bs L)] w fun e w'=>e=.returned (Cb.unhexV (Cb.Cd.unhexL L))∧Below w.heap.size w w':=by
 have:=Cb.unhex_any (bs L) w (by rw [bs_size];exact h)
 rw [bs_list] at this
 exact this
theorem Rdr.grown {w w':World} {N M:Nat} {s:ByteArray} {b:Bool} (h:Rdr w N s b) (hg:w.grownBy w' (some M)) (hne:N≠M):Rdr w' N s b:=⟨(hg.block N h.lt (by simpa using hne)).trans h.blk⟩
def unhB (L:List UInt8):ByteArray:=bs ((Cb.Cd.unhexL L).getD [])
def unhO (L:List UInt8):Bool:=(Cb.Cd.unhexL L).isSome
theorem unhV_eq (L:List UInt8):Cb.unhexV (Cb.Cd.unhexL L)=.tuple #[.string (unhB L),.int .i64 (if unhO L=true then 0 else 6)]:=by
 unfold unhB unhO
 cases Cb.Cd.unhexL L with
 | none=>rfl
 | some t=>rfl
theorem clone_c (L:List UInt8) (w:World) (h:L.length≤1000000):Calls Tryz.prog 46 #[.string (bs L)] w fun e w'=>e=.returned (.string (bs L))∧Below w.heap.size w w':=clone_any (bs L) w (by rw [bs_size];omega)
theorem results_c2 {fn:Func} {p u:Tmp} {ty:TypeId} (h:fn.results=#[.cell p ty,.tmp u]) (tmps:Array Value) (P:Program) (w:World) :
  (results fn tmps).run P w=((asAddr (tmps.getD p undef)).run P w).andThen fun a w₁=>((loadVar ty a).run P w₁).andThen fun x w₂=>.ok (.tuple #[x,tmps.getD u undef]) w₂:=by
 simp only [results,h]
 simp [Sem.run_bind,Result.andThen]
def idO (L:List UInt8):Bool:=unhO L && decide ((unhB L).size=32)
theorem mayBeID_w (s:ByteArray) (w:World):Calls Tryz.prog 217 #[.string s] w fun e w'=>e=.returned (.bool (decide (s.size=32)))∧w=w':=(mayBeID_any s w).mono fun _ _ h=>⟨h.1,h.2.symm⟩
set_option maxHeartbeats 1600000 in
set_option maxRecDepth 100000 in
theorem takeID_any (N:Nat) (wd L:List UInt8) (bd:Bool) (w:World) (hR:Rdr w N (bs L) bd) (hL:L.length≤1000000) (hw:wd.length≤1000) (hm:MaxAt w) :
  Calls Tryz.prog 169 #[.pointer (some ⟨N,0,none⟩),.string (bs wd)] w fun e w'=>e=.returned (.string (unhB (tkT wd L)))∧Rdr w' N (bs (tkR L)) (bd || !(tkO wd L && idO (tkT wd L)))∧w.grownBy w' (some N):=by
 have HT:=hideIt (take_any N wd L bd w hR hL hw hm)
 have HU:=hideIt (fun w=>unhex_c (tkT wd L) w (by have:=tkT_len wd L;omega))
 have HI:=hideIt (fun w=>mayBeID_w (unhB (tkT wd L)) w)
 have hd:idO (tkT wd L)=(unhO (tkT wd L) && decide ((unhB (tkT wd L)).size=32)):=rfl
 rw [hd]
 rw [unhV_eq] at HU
 obtain ⟨T,hT⟩:∃ T,bs (tkT wd L)=T:=⟨_,rfl⟩
 obtain ⟨U,hU⟩:∃ U,unhB (tkT wd L)=U:=⟨_,rfl⟩
 obtain ⟨o,ho⟩:∃ o,tkO wd L=o:=⟨_,rfl⟩
 obtain ⟨u,hu⟩:∃ u,unhO (tkT wd L)=u:=⟨_,rfl⟩
 obtain ⟨R,hRr⟩:∃ R,bs (tkR L)=R:=⟨_,rfl⟩
 rw [hT,ho,hRr] at HT
 rw [hT,hU,hu] at HU
 rw [hU] at HI
 rw [hU,ho,hu,hRr]
 obtain ⟨i,hi⟩:∃ i,decide (U.size=32)=i:=⟨_,rfl⟩
 rw [hi] at HI ⊢
 have HX:(bd || !(o && (u && i)))=(((bd || !o) || !u) || !i):=by cases bd <;> cases o <;> cases u <;> cases i <;> rfl
 obtain ⟨x,hx⟩:∃ x,(bd || !o)=x:=⟨_,rfl⟩
 rw [hx] at HX HT
 rw [HX]
 clear hT hU ho hu hRr hR hx HX hm hd hi
 cases u with
 | true =>
  have HU2:Hid (∀ w,Calls Tryz.prog 107 #[.string T] w fun e w'=>e=.returned (.tuple #[.string U,.int .i64 0])∧Below w.heap.size w w'):=HU
  clear HU
  cases x with
  | true =>
   go_enter Tryz.func169,Tryz.ntmps169
   go_wp2_with (first | (go_at_call 171;refine HT.out.mono ?_;rintro e w1 ⟨rfl,hr1,hg1⟩;have HR1:=hideIt hr1) | (go_at_call 107;refine (HU2.out _).mono ?_;rintro e w2 ⟨rfl,hb2⟩;have HR2:=hideIt (HR1.out.below hb2);have c0:=HR2.out.c0;have c1:=HR2.out.c1;have f0:=HR2.out.f0;have f1:=HR2.out.f1))
   all_goals go_ret
   all_goals exact ⟨rfl,Rdr.cast (HR2.out.set1 _) (by simp_all),(hg1.trans (grown_of hb2 _)).trans (grown_set _ _ _ _)⟩
  | false =>
   cases i with
   | true =>
    go_enter Tryz.func169,Tryz.ntmps169
    go_wp2_with (first | (go_at_call 171;refine HT.out.mono ?_;rintro e w1 ⟨rfl,hr1,hg1⟩;have HR1:=hideIt hr1) | (go_at_call 107;refine (HU2.out _).mono ?_;rintro e w2 ⟨rfl,hb2⟩;have HR2:=hideIt (HR1.out.below hb2);have c0:=HR2.out.c0;have c1:=HR2.out.c1;have f0:=HR2.out.f0;have f1:=HR2.out.f1) | (go_at_call 217;refine (HI.out _).mono ?_;rintro e w3 ⟨rfl,rfl⟩))
    all_goals go_ret
    all_goals exact ⟨rfl,Rdr.cast (HR2.out.set1 _) (by simp_all),(hg1.trans (grown_of hb2 _)).trans (grown_set _ _ _ _)⟩
   | false =>
    go_enter Tryz.func169,Tryz.ntmps169
    go_wp2_with (first | (go_at_call 171;refine HT.out.mono ?_;rintro e w1 ⟨rfl,hr1,hg1⟩;have HR1:=hideIt hr1) | (go_at_call 107;refine (HU2.out _).mono ?_;rintro e w2 ⟨rfl,hb2⟩;have HR2:=hideIt (HR1.out.below hb2);have c0:=HR2.out.c0;have c1:=HR2.out.c1;have f0:=HR2.out.f0;have f1:=HR2.out.f1) | (go_at_call 217;refine (HI.out _).mono ?_;rintro e w3 ⟨rfl,rfl⟩))
    all_goals go_ret
    all_goals exact ⟨rfl,Rdr.cast (HR2.out.set1 _) (by simp_all),(hg1.trans (grown_of hb2 _)).trans (grown_set _ _ _ _)⟩
 | false =>
  have HU2:Hid (∀ w,Calls Tryz.prog 107 #[.string T] w fun e w'=>e=.returned (.tuple #[.string U,.int .i64 6])∧Below w.heap.size w w'):=HU
  clear HU
  go_enter Tryz.func169,Tryz.ntmps169
  go_wp2_with (first | (go_at_call 171;refine HT.out.mono ?_;rintro e w1 ⟨rfl,hr1,hg1⟩;have HR1:=hideIt hr1) | (go_at_call 107;refine (HU2.out _).mono ?_;rintro e w2 ⟨rfl,hb2⟩;have HR2:=hideIt (HR1.out.below hb2);have c0:=HR2.out.c0;have c1:=HR2.out.c1;have f0:=HR2.out.f0;have f1:=HR2.out.f1))
  all_goals go_ret
  all_goals exact ⟨rfl,Rdr.cast (HR2.out.set1 _) (by simp_all),(hg1.trans (grown_of hb2 _)).trans (grown_set _ _ _ _)⟩
set_option maxHeartbeats 1600000 in
set_option maxRecDepth 100000 in
theorem takeText_any (N:Nat) (L:List UInt8) (bd:Bool) (w:World) (hR:Rdr w N (bs L) bd) :
  Calls Tryz.prog 173 #[.pointer (some ⟨N,0,none⟩)] w fun e w'=>e=.returned (.string (bs (txT L)))∧Rdr w' N ⟨#[]⟩ (bd || !txO L)∧w.grownBy w' (some N):=by
 have HR:=hideIt hR
 have c0:=hR.c0
 have c1:=hR.c1
 have f0:=hR.f0
 have f1:=hR.f1
 have HP:Hid (∀ w,Calls Tryz.prog 219 #[.string (bs L),.string ⟨#[10]⟩] w fun e w'=>e=.returned (.tuple #[.string (bs (txT L)),.bool (txO L)])∧w=w'):=hideIt (fun w=>by
  have h:=cutp_c L [10] w
  have e1:(if ([10]:List UInt8).isPrefixOf L=true then L.drop ([10]:List UInt8).length else L)=txT L:=by unfold txT txO;simp
  rw [e1] at h
  exact h.mono fun _ _ h=>⟨h.1,h.2.symm⟩)
 obtain ⟨o,ho⟩:∃ o,txO L=o:=⟨_,rfl⟩
 rw [ho] at HP ⊢
 clear hR ho
 go_enter Tryz.func173,Tryz.ntmps173
 go_wp2_with (first | (go_at_call 219;refine (HP.out _).mono ?_;rintro e w2 ⟨rfl,rfl⟩))
 all_goals go_ret
 all_goals exact ⟨rfl,Rdr.cast ((HR.out.set1 _).set0 _) (by simp_all),(grown_set _ _ _ _).trans (grown_set _ _ _ _)⟩
end Ob
end Go.Proofs.YtogjlepdejonpaaGreatDoor
namespace Go.Proofs.YtogjlepdejonpaaGreatDoor
open Go.Lib
structure En where
 nm:ByteArray
 md:Int
 ids:ByteArray
instance:Inhabited En:=⟨⟨.empty,0,.empty⟩⟩
def word (m:Int):List UInt8:=if m=1 then [102,105,108,101] else if m=2 then [114,117,110] else if m=3 then [116,114,101,101] else []
def modeL (l:List UInt8):Int:=if l=[102,105,108,101] then 1 else if l=[114,117,110] then 2 else if l=[116,114,101,101] then 3 else 0
def less (a b:ByteArray):Bool:=Op.bytesLess a.toList b.toList
def chk1 (x:En):Int:=if Lb.nameB x.nm=false then 50 else if ¬ (1≤x.md∧x.md≤3) then 60 else if x.ids.size≠32 then 6 else 0
def stuck (p:Option En) (x:En):Bool:=match p with
 | none=>false
 | some y=>!less y.nm x.nm
def chkF:Option En→List En→Int
 | _,[]=>0
 | p,x :: r=>if chk1 x≠0 then chk1 x else if stuck p x=true then 61 else chkF (some x) r
def chk (l:List En):Int:=if 256 < l.length then 3 else chkF none l
def before (l:List En):Nat→Option En
 | 0=>none
 | i + 1=>l[i]?
theorem chk_step (l:List En) (i:Nat) (x:En) (h:l[i]? = some x):chkF (before l i) (l.drop i)=if chk1 x≠0 then chk1 x else if stuck (before l i) x=true then 61 else chkF (before l (i + 1)) (l.drop (i + 1)):=by
 obtain ⟨hl,rfl⟩:=List.getElem?_eq_some_iff.1 h
 rw [List.drop_eq_getElem_cons hl,chkF]
 have e:before l (i + 1)=some l[i]:=by rw [before,List.getElem?_eq_getElem hl]
 rw [e]
theorem chk_end (l:List En) (p:Option En):chkF p (l.drop l.length)=0:=by simp [chkF]
def enc1 (x:En):List UInt8:=word x.md ++ 32 :: (x.nm.data.toList ++ 0 :: x.ids.data.toList)
def cut0:List UInt8→Option (List UInt8 × List UInt8)
 | []=>none
 | c :: r=>if c=0 then some ([],r) else (cut0 r).map fun p=>(c :: p.1,p.2)
def heads (h:List UInt8):Option (Int × List UInt8) :=
 if [102,105,108,101,32].isPrefixOf h then some (1,h.drop 5) else if [114,117,110,32].isPrefixOf h then some (2,h.drop 4)
 else if [116,114,101,101,32].isPrefixOf h then some (3,h.drop 5) else none
inductive Rd where
 | err (e:Int)
 | ok (x:En) (r:List UInt8)
def rd (s:List UInt8):Rd:=match cut0 s with
 | none=>.err 4
 | some (h,r)=>if r.length < 32 then .err 4 else match heads h with
  | none=>.err 60
  | some (m,n)=>.ok ⟨bs n,m,bs (r.take 32)⟩ (r.drop 32)
def fin (acc:List En):Int × List En:=(chk acc,if chk acc=0 then acc else [])
def decF:Nat→List En→List UInt8→Int × List En
 | 0,acc,_=>fin acc
 | f + 1,acc,s=>if s=[] then fin acc else match rd s with
  | .err e=>(e,[])
  | .ok x r=>if acc.length=256 then (3,[]) else decF f (acc ++ [x]) r
def dec (s:List UInt8):Int × List En:=decF s.length [] s
theorem cut0_none:∀ s,cut0 s=none↔0 ∉ s
 | []=>by simp [cut0]
 | c :: r=>by
  rw [cut0]
  by_cases h:c=0
  ·simp [h]
  ·rw [if_neg h,Option.map_eq_none_iff,cut0_none r]
   simp
   intro _ e
   exact h e.symm
theorem cut0_some:∀ (s h r:List UInt8),cut0 s=some (h,r)→s=h ++ 0 :: r∧0 ∉ h
 | [],h,r,e=>by simp [cut0] at e
 | c :: t,h,r,e=>by
  rw [cut0] at e
  by_cases hc:c=0
  ·simp [hc] at e
   obtain ⟨rfl,rfl⟩:=e
   simp [hc]
  ·rw [if_neg hc,Option.map_eq_some_iff] at e
   obtain ⟨⟨a,b⟩,e1,e2⟩:=e
   simp at e2
   obtain ⟨rfl,rfl⟩:=e2
   obtain ⟨h1,h2⟩:=cut0_some t a b e1
   refine ⟨by simp [h1],?_⟩
   simp [h2]
   exact fun e=>hc e.symm
theorem cut0_mk:∀ (h r:List UInt8),0 ∉ h→cut0 (h ++ 0 :: r)=some (h,r)
 | [],r,_=>by simp [cut0]
 | c :: t,r,hn=>by
  have hc:c≠0:=fun e=>hn (by simp [e])
  rw [List.cons_append,cut0,if_neg hc,cut0_mk t r (fun e=>hn (by simp [e]))]
  rfl
theorem word_mode (m:Int):word m=[]↔¬ (1≤m∧m≤3):=by
 unfold word
 by_cases h1:m=1
 ·simp [h1]
 ·by_cases h2:m=2
  ·simp [h2]
  ·by_cases h3:m=3
   ·simp [h3]
   ·simp [h1,h2,h3];omega
theorem pref_some (p h:List UInt8) (e:p.isPrefixOf h=true):h=p ++ h.drop p.length:=by
 obtain ⟨t,rfl⟩:=List.isPrefixOf_iff_prefix.1 e
 simp
theorem heads_some (h:List UInt8) (m:Int) (n:List UInt8) (e:heads h=some (m,n)):h=word m ++ 32 :: n∧1≤m∧m≤3:=by
 unfold heads at e
 by_cases h1:[102,105,108,101,32].isPrefixOf h=true
 ·rw [if_pos h1] at e
  simp at e
  obtain ⟨rfl,rfl⟩:=e
  exact ⟨by simpa [word] using pref_some _ _ h1,by omega,by omega⟩
 ·rw [if_neg h1] at e
  by_cases h2:[114,117,110,32].isPrefixOf h=true
  ·rw [if_pos h2] at e
   simp at e
   obtain ⟨rfl,rfl⟩:=e
   exact ⟨by simpa [word] using pref_some _ _ h2,by omega,by omega⟩
  ·rw [if_neg h2] at e
   by_cases h3:[116,114,101,101,32].isPrefixOf h=true
   ·rw [if_pos h3] at e
    simp at e
    obtain ⟨rfl,rfl⟩:=e
    exact ⟨by simpa [word] using pref_some _ _ h3,by omega,by omega⟩
   ·rw [if_neg h3] at e
    cases e
theorem heads_mk (m:Int) (n:List UInt8) (h:1≤m∧m≤3):heads (word m ++ 32 :: n)=some (m,n):=by
 rcases (by omega:m=1∨m=2∨m=3) with rfl | rfl | rfl <;> simp [heads,word,List.isPrefixOf]
def wf (x:En):Prop:=0 ∉ x.nm.data.toList∧(1≤x.md∧x.md≤3)∧x.ids.size=32
theorem rd_ok (s:List UInt8) (x:En) (r:List UInt8) (h:rd s=.ok x r):s=enc1 x ++ r∧r.length + 33≤s.length∧wf x:=by
 unfold rd at h
 cases hc:cut0 s with
 | none=>rw [hc] at h;cases h
 | some p =>
  obtain ⟨a,b⟩:=p
  rw [hc] at h
  dsimp only at h
  obtain ⟨rfl,h0⟩:=cut0_some s a b hc
  by_cases hl:b.length < 32
  ·rw [if_pos hl] at h;cases h
  ·rw [if_neg hl] at h
   cases hh:heads a with
   | none=>rw [hh] at h;cases h
   | some q =>
    obtain ⟨m,n⟩:=q
    rw [hh] at h
    simp only [Rd.ok.injEq] at h
    obtain ⟨rfl,rfl⟩:=h
    obtain ⟨rfl,hm⟩:=heads_some a m n hh
    refine ⟨?_,by simp;omega,?_⟩
    ·simp [enc1,bs_list]
    ·refine ⟨?_,hm,?_⟩
     ·rw [bs_list]
      intro hz
      exact h0 (by simp [hz])
     ·rw [bs_size];simp;omega
theorem enc1_ne (x:En) (r:List UInt8):enc1 x ++ r≠[]:=by simp [enc1]
end Go.Proofs.YtogjlepdejonpaaGreatDoor
namespace Go.Proofs.YtogjlepdejonpaaGreatDoor
namespace Ob
open Go.RowKit Go.Lib
def rpL (c:UInt8) (l:List UInt8):List UInt8:=l.map fun x=>if x=47 then c else x
theorem rpL_none (c:UInt8) (l:List UInt8) (h:(47:UInt8) ∉ l):rpL c l=l:=by
 unfold rpL
 conv=>rhs;rw [← List.map_id l]
 apply List.map_congr_left
 intro x hx
 by_cases e:x=47
 ·subst e;exact absurd hx h
 ·rw [if_neg e];rfl
theorem replace_rp (c:UInt8):∀ (n:Nat) (s:List UInt8),s.length≤n→Lib.replaceK [47] [c] (Lib.count s [47]) s=rpL c s:=by
 intro n
 induction n with
 | zero =>
  intro s h
  have:s=[]:=List.eq_nil_of_length_eq_zero (by omega)
  subst this
  rfl
 | succ n ih =>
  intro s h
  rcases cut_at 47 s with h0 | ⟨a,r,rfl,ha⟩
  ·rw [Lib.count_miss (index_none 47 s h0),Lib.replaceK,rpL_none c s h0]
  ·have hi:=index_some 47 a r ha
   rw [Lib.count_hit (by simp) hi,Nat.add_comm,Lib.replaceK_hit _ _ _ _ _ hi]
   have hd:(a ++ 47 :: r).drop (a.length + ([47]:List UInt8).length)=r:=by
    rw [List.drop_append]
    simp
   have ht:(a ++ 47 :: r).take a.length=a:=by simp
   rw [hd,ht,ih r (by simp at h;omega)]
   have h2:=rpL_none c a ha
   unfold rpL at h2 ⊢
   rw [List.map_append,h2,List.map_cons]
   simp
theorem replaceAll_rp (c:UInt8) (hc:c≠47) (s:List UInt8):Lib.replaceAll s [47] [c]=rpL c s:=by
 have h:([47] == [c])=false:=by
  simp only [beq_eq_false_iff_ne,ne_eq,List.cons.injEq,and_true]
  exact fun e=>hc e.symm
 rw [Lib.replaceAll,Lib.replace,h]
 simp only [Bool.false_eq_true,if_false]
 rw [show Lib.replaceNum s [47] (-1)=Lib.count s [47] by rw [Lib.replaceNum,if_pos (.inl (by decide))]]
 exact replace_rp c _ s (Nat.le_refl _)
theorem decodeN_cong (n b0 b1 b2 b3 d1 d2 d3:Nat) (h1:b1=d1∨(b1 < 128∧d1 < 128)) (h2:b2=d2∨(b2 < 128∧d2 < 128)) (h3:b3=d3∨(b3 < 128∧d3 < 128)):decodeN n b0 b1 b2 b3=decodeN n b0 d1 d2 d3:=by
 have key:∀ x y:Nat,(x=y∨(x < 128∧y < 128))→x=y∨(¬ x / 64=2∧¬ y / 64=2):=fun x y h=>by omega
 rcases key b1 d1 h1 with rfl | ⟨p1,q1⟩
 ·rcases key b2 d2 h2 with rfl | ⟨p2,q2⟩
  ·rcases key b3 d3 h3 with rfl | ⟨p3,q3⟩
   ·rfl
   ·unfold decodeN;simp only [p3,q3,and_false,if_false]
  ·unfold decodeN;simp only [p2,q2,and_false,false_and,if_false]
 ·unfold decodeN;simp only [p1,q1,and_false,false_and,if_false]
theorem rp_get (c:UInt8) (l:List UInt8) (i:Nat):(bs (rpL c l)).get! i=if l.getD i 0=47 then c else l.getD i 0:=by
 rw [Lb.get_list,bs_list,rpL,List.getD_eq_getElem?_getD,List.getElem?_map,List.getD_eq_getElem?_getD]
 cases l[i]? with
 | none=>simp
 | some x=>simp
theorem rp_size (c:UInt8) (l:List UInt8):(bs (rpL c l)).size=l.length:=by rw [bs_size,rpL,List.length_map]
theorem rp_all (c d:UInt8) (hc:c.toNat < 128∧Lb.bar c.toNat=false) (hd:d.toNat < 128∧Lb.bar d.toNat=false) (l:List UInt8):∀ (f pos:Nat),(Lb.runesF (bs (rpL c l)) f pos).all (fun x=>!Lb.bar x.1)=(Lb.runesF (bs (rpL d l)) f pos).all (fun x=>!Lb.bar x.1):=by
 intro f
 induction f with
 | zero=>intro pos;rfl
 | succ f ih =>
  intro pos
  by_cases hp:pos < l.length
  ·rw [Lb.runes_step _ f pos (by rw [rp_size];exact hp),Lb.runes_step _ f pos (by rw [rp_size];exact hp),List.all_cons,List.all_cons]
   rw [decode_at,decode_at,rp_size,rp_size]
   have hb:∀ i,((bs (rpL c l)).get! i).toNat=((bs (rpL d l)).get! i).toNat∨(((bs (rpL c l)).get! i).toNat < 128∧((bs (rpL d l)).get! i).toNat < 128):=by
    intro i
    rw [rp_get,rp_get]
    by_cases h:l.getD i 0=47
    ·rw [if_pos h,if_pos h];exact .inr ⟨hc.1,hd.1⟩
    ·rw [if_neg h,if_neg h];exact .inl rfl
   by_cases h0:l.getD pos 0=47
   ·have e1:((bs (rpL c l)).get! pos).toNat=c.toNat:=by rw [rp_get,if_pos h0]
    have e2:((bs (rpL d l)).get! pos).toNat=d.toNat:=by rw [rp_get,if_pos h0]
    have g1:∀ b1 b2 b3,decodeN (l.length - pos) c.toNat b1 b2 b3=(c.toNat,1):=fun _ _ _=>by rw [decodeN,if_pos hc.1]
    have g2:∀ b1 b2 b3,decodeN (l.length - pos) d.toNat b1 b2 b3=(d.toNat,1):=fun _ _ _=>by rw [decodeN,if_pos hd.1]
    rw [e1,e2,g1,g2]
    simp only [hc.2,hd.2]
    rw [ih]
   ·have e0:((bs (rpL c l)).get! pos).toNat=((bs (rpL d l)).get! pos).toNat:=by rw [rp_get,rp_get,if_neg h0,if_neg h0]
    rw [e0,decodeN_cong _ _ _ _ _ _ _ _ (hb (pos + 1)) (hb (pos + 2)) (hb (pos + 3)),ih]
  ·rw [Lb.runes_end _ _ _ (by rw [rp_size];exact hp),Lb.runes_end _ _ _ (by rw [rp_size];exact hp)]
theorem rp_noName (c:UInt8) (hc:c≠46) (l:List UInt8):Lb.noName (rpL c l)=Lb.noName l:=by
 have hf:∀ x:UInt8,(if x=47 then c else x)=46↔x=46:=by
  intro x
  by_cases h:x=47
  ·rw [if_pos h]
   exact ⟨fun e=>absurd e hc,fun e=>by rw [h] at e;exact absurd e (by decide)⟩
  ·rw [if_neg h]
 have h1:(rpL c l == [])=(l == []):=by cases l <;> rfl
 have h2:(rpL c l).length=l.length:=by rw [rpL,List.length_map]
 have h3:(rpL c l == [46])=(l == [46]):=by
  rw [Bool.eq_iff_iff,beq_iff_eq,beq_iff_eq]
  match l with
  | []=>simp [rpL]
  | [x]=>simp only [rpL,List.map_cons,List.map_nil,List.cons.injEq,and_true];exact hf x
  | x :: y :: r=>simp [rpL]
 have h4:(rpL c l == [46,46])=(l == [46,46]):=by
  rw [Bool.eq_iff_iff,beq_iff_eq,beq_iff_eq]
  match l with
  | []=>simp [rpL]
  | [x]=>simp [rpL]
  | [x,y]=>simp only [rpL,List.map_cons,List.map_nil,List.cons.injEq,and_true];rw [hf x,hf y]
  | x :: y :: z :: r=>simp [rpL]
 unfold Lb.noName
 rw [h1,h2,h3,h4]
def autB (s:ByteArray):Bool:=Lb.nameB (bs (rpL 120 s.data.toList))
theorem aut_other (s:ByteArray):Lb.nameB (bs (rpL 45 s.data.toList))=autB s:=by
 unfold autB Lb.nameB Lb.runes
 rw [bs_list,bs_list,rp_noName 45 (by decide),rp_noName 120 (by decide),rp_size,rp_size,rp_all 45 120 (by decide) (by decide)]
end Ob
end Go.Proofs.YtogjlepdejonpaaGreatDoor
namespace Go.Proofs.YtogjlepdejonpaaGreatDoor
namespace Ob
open Go.RowKit Go.Shelf
def SCells (w:World) (b o:Nat) (l:List ByteArray):Prop:=b < w.heap.size∧∀ (i:Nat) (x:ByteArray),l[i]? = some x→w.cell? ⟨b,o + i,none⟩=some (.string x)
def SRow (w:World) (v:Value) (l:List ByteArray):Prop:=∃ a c,v=.slice a l.length c∧l.length≤c∧(c≤maxLen∧(a=none→c=0))∧(0 < l.length→∃ b o,a=some ⟨b,o,none⟩∧SCells w b o l)
theorem SCells.below {w w':World} {b o:Nat} {l:List ByteArray} (h:SCells w b o l) (hb:Below w.heap.size w w'):SCells w' b o l :=
 ⟨Nat.lt_of_lt_of_le h.1 hb.size,fun i x hx=>by rw [hb.cell (p:=⟨b,o + i,none⟩) h.1];exact h.2 i x hx⟩
theorem SRow.below {w w':World} {v:Value} {l:List ByteArray} (h:SRow w v l) (hb:Below w.heap.size w w'):SRow w' v l:=by
 obtain ⟨a,c,h1,h2,h3,h4⟩:=h
 refine ⟨a,c,h1,h2,h3,fun h0=>?_⟩
 obtain ⟨b,o,e,hc⟩:=h4 h0
 exact ⟨b,o,e,hc.below hb⟩
theorem SRow.take {w:World} {a:Option Addr} {c:Nat} {l:List ByteArray} (i:Nat) (hi:i≤l.length) (h:SRow w (.slice a l.length c) l):SRow w (.slice a i c) (l.take i):=by
 obtain ⟨a',c',h1,h2,h3,h4⟩:=h
 simp only [Value.slice.injEq,true_and] at h1
 obtain ⟨rfl,rfl⟩:=h1
 have hl:(l.take i).length=i:=by rw [List.length_take];omega
 refine ⟨a,c,by rw [hl],by omega,h3,fun h0=>?_⟩
 obtain ⟨b,o,e,hc⟩:=h4 (by omega)
 refine ⟨b,o,e,hc.1,fun j x hx=>hc.2 j x ?_⟩
 rw [List.getElem?_take] at hx
 split at hx
 ·exact hx
 ·cases hx
theorem bytes_eq (x y:ByteArray):(x.toList == y.toList)=decide (x=y):=by
 rw [ByteArray.toList_eq,ByteArray.toList_eq]
 by_cases h:x=y
 ·rw [h];simp
 ·have:x.data.toList≠y.data.toList:=fun e=>h (by rw [← bs_data x,e,bs_data])
  rw [decide_eq_false h];simpa using this
def memB (x:ByteArray) (l:List ByteArray):Bool:=l.any fun y=>x.toList == y.toList
theorem memB_iff (x:ByteArray) (l:List ByteArray):memB x l=true↔x ∈ l:=by
 unfold memB
 rw [List.any_eq_true]
 constructor
 ·rintro ⟨y,hy,e⟩
  rw [bytes_eq,decide_eq_true_eq] at e
  rw [e];exact hy
 ·intro h
  exact ⟨x,h,by simp⟩
theorem memB_not {x:ByteArray} {l:List ByteArray} (h:x ∉ l):memB x l=false:=by
 cases e:memB x l with
 | false=>rfl
 | true=>exact absurd ((memB_iff x l).1 e) h
set_option maxHeartbeats 800000 in
set_option maxRecDepth 100000 in
theorem index_any (v:Value) (l:List ByteArray) (x:ByteArray) (w:World) (h:SRow w v l) :
  Calls Tryz.prog 288 #[v,.string x] w fun e w'=>∃ k:Int,e=.returned (.int .i64 k)∧(0≤k↔x ∈ l)∧w=w':=by
 obtain ⟨a,c,rfl,hlc,hcm,hrow⟩:=h
 have HR:=hideIt hrow
 obtain ⟨n,hn⟩:∃ n,l.length=n:=⟨_,rfl⟩
 rw [hn] at hlc ⊢
 have HN:=hideIt hn
 have hcm1:=hcm.1
 unfold maxLen at hcm1
 clear hrow
 go_enter Tryz.func288,Tryz.ntmps288
 go_wp2
 go_loopw [8] (fun t wr=>∃ i:Nat,i≤n∧t=.int .i64 i∧(∀ j,j < i→l[j]?≠some x)∧w=wr) (fun t _=>n - (intOf t).toNat)
 case atStart=>exact ⟨0,by omega,rfl,fun j hj=>by omega,rfl⟩
 case round =>
  obtain ⟨i,hi,rfl,hne,rfl⟩:=hrel
  have HNE:=hideIt hne
  clear hne
  by_cases hlt:i < n
  ·have i1:decide ((i:Int) < (n:Int))=true:=decide_eq_true (by omega)
   have i2:(i:Int) < (n:Int):=by omega
   obtain ⟨b,o,rfl,hcells⟩:=HR.out (by rw [HN.out];omega)
   obtain ⟨y,hyi⟩:∃ y,l[i]? = some y:=⟨l[i]'(by rw [HN.out];exact hlt),by simp⟩
   have c0:=hcells.2 i y hyi
   have HY:=hideIt hyi
   clear hcells hyi
   by_cases hxy:x=y
   ·have e1:(x.toList == y.toList)=true:=by rw [bytes_eq,decide_eq_true hxy]
    go_wp2
    go_ret
    refine ⟨(i:Int),rfl,⟨fun _=>?_,fun _=>by omega⟩,rfl⟩
    rw [hxy]
    exact List.mem_of_getElem? HY.out
   ·have e1:(x.toList == y.toList)=false:=by rw [bytes_eq,decide_eq_false hxy]
    go_wp2
    go_roundw
    case rel =>
     refine ⟨i + 1,by omega,by go_num,fun j hj=>?_,by trivial⟩
     rcases (by omega:j < i∨j=i) with h' | rfl
     ·exact HNE.out j h'
     ·rw [HY.out];simp;exact fun e=>hxy e.symm
    case measure=>simp [intOf];omega
  ·have i1:decide ((i:Int) < (n:Int))=false:=decide_eq_false (by omega)
   obtain rfl:i=n:=by omega
   go_wp2
   go_ret
   refine ⟨-1,rfl,⟨fun h=>by omega,fun h=>?_⟩,rfl⟩
   obtain ⟨j,hj⟩:=List.mem_iff_getElem?.1 h
   have hjl:j < l.length:=(List.getElem?_eq_some_iff.1 hj).1
   exact absurd hj (HNE.out j (by rw [HN.out] at hjl;exact hjl))
set_option maxHeartbeats 400000 in
theorem contains_any (v:Value) (l:List ByteArray) (x:ByteArray) (w:World) (h:SRow w v l) :
  Calls Tryz.prog 266 #[v,.string x] w fun e w'=>e=.returned (.bool (memB x l))∧w=w':=by
 have H:=hideIt (index_any v l x w h)
 obtain ⟨a,c,rfl,-,-,-⟩:=h
 by_cases hx:x ∈ l
 ·rw [(memB_iff x l).2 hx]
  go_enter Tryz.func266,Tryz.ntmps266
  go_wp2_with (first | (go_at_call 288;refine H.out.mono ?_;rintro e w1 ⟨k,rfl,hk,rfl⟩;have k1:0≤k:=hk.2 hx))
  go_ret
  exact ⟨by simp,rfl⟩
 ·rw [memB_not hx]
  go_enter Tryz.func266,Tryz.ntmps266
  go_wp2_with (first | (go_at_call 288;refine H.out.mono ?_;rintro e w1 ⟨k,rfl,hk,rfl⟩;have k1:¬ 0≤k:=fun h=>hx (hk.1 h)))
  go_ret
  exact ⟨by simp,rfl⟩
def parF (l:List ByteArray) (i:Nat):Bool:=(List.range i).all fun j=>idB (l.getD j ⟨#[]⟩) && !memB (l.getD j ⟨#[]⟩) (l.take j)
def parB (l:List ByteArray):Bool:=parF l l.length
theorem parF_succ (l:List ByteArray) (i:Nat) (y:ByteArray) (h:l[i]? = some y):parF l (i + 1)=(parF l i && (idB y && !memB y (l.take i))):=by
 unfold parF
 rw [List.range_succ,List.all_append]
 simp only [List.all_cons,List.all_nil,Bool.and_true]
 rw [List.getD_eq_getElem?_getD,h]
 rfl
theorem parF_le (l:List ByteArray) (i k:Nat) (hik:i≤k) (h:parF l k=true):parF l i=true:=by
 unfold parF at h ⊢
 rw [List.all_eq_true] at h ⊢
 intro j hj
 exact h j (List.mem_range.2 (by have:=List.mem_range.1 hj;omega))
set_option maxHeartbeats 800000 in
set_option maxRecDepth 100000 in
theorem mayBeParents_any (v:Value) (l:List ByteArray) (w:World) (h:SRow w v l) :
  Calls Tryz.prog 220 #[v] w fun e w'=>e=.returned (.bool (parB l))∧w=w':=by
 have HROW:=hideIt h
 obtain ⟨a,c,rfl,hlc,hcm,hrow⟩:=h
 have HR:=hideIt hrow
 have HP:Hid (parB l=parF l l.length):=rfl
 obtain ⟨n,hn⟩:∃ n,l.length=n:=⟨_,rfl⟩
 rw [hn] at hlc HP HROW ⊢
 have HN:=hideIt hn
 have hcm1:=hcm.1
 unfold maxLen at hcm1
 clear hrow
 go_enter Tryz.func220,Tryz.ntmps220
 go_wp2
 go_loopw [7] (fun t wr=>∃ i:Nat,i≤n∧t=.int .i64 i∧parF l i=true∧w=wr) (fun t _=>n - (intOf t).toNat)
 case atStart=>exact ⟨0,by omega,rfl,rfl,rfl⟩
 case round =>
  obtain ⟨i,hi,rfl,hpar,rfl⟩:=hrel
  have HPA:=hideIt hpar
  clear hpar
  by_cases hlt:i < n
  ·have i1:decide ((i:Int) < (n:Int))=true:=decide_eq_true (by omega)
   have i2:(i:Int) < (n:Int):=by omega
   obtain ⟨b,o,rfl,hcells⟩:=HR.out (by rw [HN.out];omega)
   obtain ⟨y,hyi⟩:∃ y,l[i]? = some y:=⟨l[i]'(by rw [HN.out];exact hlt),by simp⟩
   have c0:=hcells.2 i y hyi
   have HS:=hideIt (parF_succ l i y hyi)
   have HI:Hid (∀ w,Calls Tryz.prog 217 #[.string y] w fun e w'=>e=.returned (.bool (idB y))∧w=w'):=hideIt (fun w=>(mayBeID_any y w).mono fun _ _ h=>⟨h.1,h.2.symm⟩)
   have HCO:=hideIt (contains_any (.slice (some ⟨b,o,none⟩) i c) (l.take i) y w (SRow.take i (by rw [HN.out];omega) (by rw [HN.out];exact HROW.out)))
   obtain ⟨p,hp⟩:∃ p,idB y=p:=⟨_,rfl⟩
   obtain ⟨q,hq⟩:∃ q,memB y (l.take i)=q:=⟨_,rfl⟩
   rw [hp] at HI HS
   rw [hq] at HCO HS
   have hic:(i:Int)≤(c:Int):=by omega
   clear hcells hyi hp hq
   have HF:Hid (parF l (i + 1)=false→parB l=false):=hideIt (fun e=>by
    cases hb:parB l with
    | false=>rfl
    | true =>
     rw [HP.out] at hb
     rw [parF_le l (i + 1) n (by omega) hb] at e
     cases e)
   cases p with
   | false =>
    have HE:=hideIt (HF.out (by rw [HS.out];simp))
    go_wp2_with (first | (go_at_call 217;refine (HI.out _).mono ?_;rintro e w1 ⟨rfl,rfl⟩) | (go_at_call 266;refine HCO.out.mono ?_;rintro e w1 ⟨rfl,rfl⟩))
    go_ret
    exact ⟨by rw [HE.out] <;> rfl,rfl⟩
   | true =>
    cases q with
    | true =>
     have HE:=hideIt (HF.out (by rw [HS.out];simp))
     go_wp2_with (first | (go_at_call 217;refine (HI.out _).mono ?_;rintro e w1 ⟨rfl,rfl⟩) | (go_at_call 266;refine HCO.out.mono ?_;rintro e w1 ⟨rfl,rfl⟩))
     go_ret
     exact ⟨by rw [HE.out] <;> rfl,rfl⟩
    | false =>
     go_wp2_with (first | (go_at_call 217;refine (HI.out _).mono ?_;rintro e w1 ⟨rfl,rfl⟩) | (go_at_call 266;refine HCO.out.mono ?_;rintro e w1 ⟨rfl,rfl⟩))
     go_roundw
     case rel=>exact ⟨i + 1,by omega,by go_num,by rw [HS.out,HPA.out];rfl,by trivial⟩
     case measure=>simp [intOf];omega
  ·have i1:decide ((i:Int) < (n:Int))=false:=decide_eq_false (by omega)
   obtain rfl:i=n:=by omega
   go_wp2
   go_ret
   exact ⟨by rw [HP.out,HPA.out] <;> rfl,rfl⟩
set_option maxHeartbeats 400000 in
theorem mayBeAuthor_any (s:ByteArray) (w:World) (hs:s.size≤1000000) (hm:MaxAt w) :
  Calls Tryz.prog 221 #[.string s] w fun e w'=>e=.returned (.bool (autB s))∧Below w.heap.size w w':=by
 obtain ⟨m,hm⟩:=hm
 have hcnt:Lib.countB s ⟨#[47]⟩≤1000001:=by
  have:=Lib.count_le s.data.toList [47]
  rw [str_len] at this
  exact Nat.le_trans this (by omega)
 have HR:Hid (Calls Tryz.prog 105 #[.string s,.string ⟨#[47]⟩,.string ⟨#[120]⟩] w fun e w'=>e=.returned (.string (bs (rpL 120 s.data.toList)))∧Below w.heap.size w w'):=hideIt (by
  have h:=Tryz.strings_ReplaceAll s ⟨#[47]⟩ ⟨#[120]⟩ m w (by omega) hm (by decide) (by
   have e:(ByteArray.mk #[120]).size=1:=rfl
   rw [e];omega)
  rw [show (ByteArray.mk #[47]).data.toList=[47] from rfl,show (ByteArray.mk #[120]).data.toList=[120] from rfl,replaceAll_rp 120 (by decide)] at h
  exact h)
 have HN:Hid (∀ w,Calls Tryz.prog 263 #[.string (bs (rpL 120 s.data.toList))] w fun e w'=>e=.returned (.bool (autB s))∧Below w.heap.size w w'):=hideIt (fun w=>name_any _ w)
 clear hm hcnt
 go_enter Tryz.func221,Tryz.ntmps221
 go_wp2_with (first | (go_at_call 105;refine HR.out.mono ?_;rintro e w1 ⟨rfl,hb1⟩) | (go_at_call 263;refine (HN.out _).mono ?_;rintro e w2 ⟨rfl,hb2⟩))
 go_ret
 exact ⟨rfl,below2 hb1 hb2⟩
end Ob
end Go.Proofs.YtogjlepdejonpaaGreatDoor
namespace Go.Proofs.YtogjlepdejonpaaGreatDoor
namespace Ob
open Go.RowKit Go.Shelf
structure Cm where
 tr:ByteArray
 pv:Value
 ps:List ByteArray
 au:ByteArray
 tm:Nat
 tx:ByteArray
def cmV (c:Cm):Value:=.agg #[.string c.tr,c.pv,.string c.au,.int .u64 (c.tm:Int),.string c.tx]
abbrev cmO (c:Cm) (T:TypeId):Obj:=.cells #[.string c.tr,c.pv,.string c.au,.int .u64 (c.tm:Int),.string c.tx] T
def comOk (c:Cm):Bool:=idB c.tr && parB c.ps && autB c.au && textB c.tx
def comE (c:Cm):Int:=if 4 < c.ps.length then 3 else if comOk c=true then 0 else 6
structure CBox (w:World) (N:Nat) (T:TypeId) (c:Cm):Prop where
 blk:w.heap[N]? = some (.cells #[.string c.tr,c.pv,.string c.au,.int .u64 (c.tm:Int),.string c.tx] T (0,0))
theorem CBox.lt {w:World} {N:Nat} {T:TypeId} {c:Cm} (h:CBox w N T c):N < w.heap.size:=by
 rcases Nat.lt_or_ge N w.heap.size with h' | h'
 ·exact h'
 ·have:=h.blk;simp [Array.getElem?_eq_none h'] at this
theorem CBox.c0 {w:World} {N:Nat} {T:TypeId} {c:Cm} (h:CBox w N T c):w.cell? ⟨N,0,none⟩=some (.string c.tr):=cellAt h.blk rfl
theorem CBox.c1 {w:World} {N:Nat} {T:TypeId} {c:Cm} (h:CBox w N T c):w.cell? ⟨N,1,none⟩=some c.pv:=cellAt h.blk rfl
theorem CBox.c2 {w:World} {N:Nat} {T:TypeId} {c:Cm} (h:CBox w N T c):w.cell? ⟨N,2,none⟩=some (.string c.au):=cellAt h.blk rfl
theorem CBox.c3 {w:World} {N:Nat} {T:TypeId} {c:Cm} (h:CBox w N T c):w.cell? ⟨N,3,none⟩=some (.int .u64 (c.tm:Int)):=cellAt h.blk rfl
theorem CBox.c4 {w:World} {N:Nat} {T:TypeId} {c:Cm} (h:CBox w N T c):w.cell? ⟨N,4,none⟩=some (.string c.tx):=cellAt h.blk rfl
theorem CBox.f0 {w:World} {N:Nat} {T:TypeId} {c:Cm} (h:CBox w N T c):w.frozen? ⟨N,0,none⟩=false:=Lib.frozen_of_heap h.blk 0
theorem CBox.f1 {w:World} {N:Nat} {T:TypeId} {c:Cm} (h:CBox w N T c):w.frozen? ⟨N,1,none⟩=false:=Lib.frozen_of_heap h.blk 1
theorem CBox.f2 {w:World} {N:Nat} {T:TypeId} {c:Cm} (h:CBox w N T c):w.frozen? ⟨N,2,none⟩=false:=Lib.frozen_of_heap h.blk 2
theorem CBox.f3 {w:World} {N:Nat} {T:TypeId} {c:Cm} (h:CBox w N T c):w.frozen? ⟨N,3,none⟩=false:=Lib.frozen_of_heap h.blk 3
theorem CBox.f4 {w:World} {N:Nat} {T:TypeId} {c:Cm} (h:CBox w N T c):w.frozen? ⟨N,4,none⟩=false:=Lib.frozen_of_heap h.blk 4
theorem CBox.below {w w':World} {N:Nat} {T:TypeId} {c:Cm} (h:CBox w N T c) (hb:Below w.heap.size w w'):CBox w' N T c:=⟨(hb.block N h.lt).trans h.blk⟩
theorem CBox.grown {w w':World} {N M:Nat} {T:TypeId} {c:Cm} (h:CBox w N T c) (hg:w.grownBy w' (some M)) (hne:N≠M):CBox w' N T c:=⟨(hg.block N h.lt (by simpa using hne)).trans h.blk⟩
theorem CBox.new (w:World) (T:TypeId) (c:Cm):CBox (w.alloc (cmO c T)) w.heap.size T c:=⟨Cb.alloc_at rfl⟩
set_option maxHeartbeats 1600000 in
set_option maxRecDepth 100000 in
theorem checkCommit_any (c:Cm) (w:World) (hrow:SRow w c.pv c.ps) (h2:c.au.size≤1000000) (h3:c.tx.size≤1000000) (hm:MaxAt w) :
  Calls Tryz.prog 174 #[cmV c] w fun e w'=>e=.returned (.int .i64 (comE c))∧Below w.heap.size w w':=by
 have HNB:=hideIt (CBox.new w 169 c)
 have HAB:=hideIt (new_below w (cmO c 169))
 have HM1:=hideIt (hm.below HAB.out)
 have HRW:=hideIt (hrow.below HAB.out)
 have HE:Hid (comE c=if 4 < c.ps.length then 3 else if (idB c.tr && parB c.ps && autB c.au && textB c.tx)=true then 0 else 6):=rfl
 obtain ⟨tr,pv,ps,au,tm,tx⟩:=c
 simp only at hrow h2 h3 HE HRW
 unfold cmV
 obtain ⟨a,cc,rfl,hlc,hcm,-⟩:=hrow
 obtain ⟨n,hn⟩:∃ n,ps.length=n:=⟨_,rfl⟩
 have HI:Hid (∀ w,Calls Tryz.prog 217 #[.string tr] w fun e w'=>e=.returned (.bool (idB tr))∧w=w'):=hideIt (fun w=>(mayBeID_any tr w).mono fun _ _ h=>⟨h.1,h.2.symm⟩)
 have HP:=hideIt (fun w h=>mayBeParents_any (.slice a ps.length cc) ps w h)
 have HA:=hideIt (fun w h=>mayBeAuthor_any au w h2 h)
 have HT:=hideIt (fun w=>mayBeText_any tx w (by unfold maxLen;omega))
 obtain ⟨i,hi⟩:∃ i,idB tr=i:=⟨_,rfl⟩
 obtain ⟨r,hr⟩:∃ r,parB ps=r:=⟨_,rfl⟩
 obtain ⟨u,hu⟩:∃ u,autB au=u:=⟨_,rfl⟩
 obtain ⟨x,hx⟩:∃ x,textB tx=x:=⟨_,rfl⟩
 rw [hi] at HI HE
 rw [hr] at HP HE
 rw [hu] at HA HE
 rw [hx] at HT HE
 rw [hn] at HP HE HRW HNB HAB HM1 ⊢
 simp only at HNB HAB ⊢
 unfold cmO at HNB HAB HRW HM1
 simp only at HNB HAB HRW HM1
 clear hi hr hu hx h2 h3 hm hn hlc hcm
 by_cases hk:4 < n
 ·rw [if_pos hk] at HE
  have k1:(4:Int) < (n:Int):=by omega
  go_enter Tryz.func174,Tryz.ntmps174
  go_wp2_with fail
  go_ret
  exact ⟨by rw [HE.out] <;> rfl,HAB.out⟩
 ·rw [if_neg hk] at HE
  have k1:¬ (4:Int) < (n:Int):=by omega
  cases i with
  | false =>
   simp only [Bool.false_and] at HE
   go_enter Tryz.func174,Tryz.ntmps174
   go_wp2_with (first | (go_at_call 217;refine (HI.out _).mono ?_;rintro e w1 ⟨rfl,rfl⟩))
   go_ret
   exact ⟨by rw [HE.out] <;> rfl,HAB.out⟩
  | true =>
   cases r with
   | false =>
    simp only [Bool.and_false,Bool.false_and] at HE
    go_enter Tryz.func174,Tryz.ntmps174
    go_wp2_with (first | (go_at_call 217;refine (HI.out _).mono ?_;rintro e w1 ⟨rfl,rfl⟩) | (go_at_call 220;refine (HP.out _ HRW.out).mono ?_;rintro e w1 ⟨rfl,rfl⟩))
    go_ret
    exact ⟨by rw [HE.out] <;> rfl,HAB.out⟩
   | true =>
    simp only [Bool.true_and] at HE
    cases u with
    | false =>
     rw [if_neg (by simp)] at HE
     go_enter Tryz.func174,Tryz.ntmps174
     go_wp2_with (first | (go_at_call 217;refine (HI.out _).mono ?_;rintro e w1 ⟨rfl,rfl⟩) | (go_at_call 220;refine (HP.out _ HRW.out).mono ?_;rintro e w1 ⟨rfl,rfl⟩) | (go_at_call 221;refine (HA.out _ HM1.out).mono ?_;rintro e w3 ⟨rfl,hb3⟩))
     go_ret
     exact ⟨by rw [HE.out] <;> rfl,below2 HAB.out hb3⟩
    | true =>
     cases x with
     | false =>
      rw [if_neg (by simp)] at HE
      go_enter Tryz.func174,Tryz.ntmps174
      go_wp2_with (first | (go_at_call 217;refine (HI.out _).mono ?_;rintro e w1 ⟨rfl,rfl⟩) | (go_at_call 220;refine (HP.out _ HRW.out).mono ?_;rintro e w1 ⟨rfl,rfl⟩) | (go_at_call 221;refine (HA.out _ HM1.out).mono ?_;rintro e w3 ⟨rfl,hb3⟩;have c4:=(HNB.out.below hb3).c4) | (go_at_call 222;refine (HT.out _).mono ?_;rintro e w4 ⟨rfl,hb4⟩))
      go_ret
      exact ⟨by rw [HE.out] <;> rfl,below2 (below2 HAB.out hb3) hb4⟩
     | true =>
      rw [if_pos (by simp)] at HE
      go_enter Tryz.func174,Tryz.ntmps174
      go_wp2_with (first | (go_at_call 217;refine (HI.out _).mono ?_;rintro e w1 ⟨rfl,rfl⟩) | (go_at_call 220;refine (HP.out _ HRW.out).mono ?_;rintro e w1 ⟨rfl,rfl⟩) | (go_at_call 221;refine (HA.out _ HM1.out).mono ?_;rintro e w3 ⟨rfl,hb3⟩;have c4:=(HNB.out.below hb3).c4) | (go_at_call 222;refine (HT.out _).mono ?_;rintro e w4 ⟨rfl,hb4⟩))
      go_ret
      exact ⟨by rw [HE.out] <;> rfl,below2 (below2 HAB.out hb3) hb4⟩
end Ob
end Go.Proofs.YtogjlepdejonpaaGreatDoor
namespace Go.Proofs.YtogjlepdejonpaaGreatDoor
namespace Ob
open Go.RowKit Go.Shelf
def parentW:List UInt8:=[112,97,114,101,110,116]
def authorW:List UInt8:=[97,117,116,104,111,114]
def timeW:List UInt8:=[116,105,109,101]
theorem comE_ok {c:Cm} (h:comE c=0):c.ps.length≤4∧c.tr.size=32∧parB c.ps=true∧autB c.au=true∧c.tx.size≤4096:=by
 unfold comE at h
 by_cases hk:4 < c.ps.length
 ·rw [if_pos hk] at h;omega
 ·rw [if_neg hk] at h
  by_cases hx:comOk c=true
  ·unfold comOk at hx
   simp only [Bool.and_eq_true,idB,textB,decide_eq_true_eq] at hx
   exact ⟨by omega,hx.1.1.1,hx.1.1.2,hx.1.2,hx.2.1⟩
  ·rw [if_neg hx] at h;omega
end Ob
end Go.Proofs.YtogjlepdejonpaaGreatDoor
namespace Go.Proofs.YtogjlepdejonpaaGreatDoor
namespace Ob
open Go.RowKit Go.Shelf
theorem hasp_c (a p:List UInt8) (w:World):Calls Tryz.prog 218 #[.string (bs a),.string (bs p)] w fun e w'=>e=.returned (.bool (p.isPrefixOf a))∧w=w':=by
 have h:=hasPrefix_any (bs a) (bs p) w
 rw [pre_bs] at h
 exact h.mono fun _ _ h=>⟨h.1,h.2.symm⟩
set_option maxHeartbeats 400000 in
theorem next_any (N:Nat) (wd L:List UInt8) (bd:Bool) (w:World) (hR:Rdr w N (bs L) bd) (hw:wd.length≤1000) :
  Calls Tryz.prog 170 #[.pointer (some ⟨N,0,none⟩),.string (bs wd)] w fun e w'=>e=.returned (.bool (hasW wd L))∧w=w':=by
 have c0:=hR.c0
 have HP:Hid (∀ w,Calls Tryz.prog 218 #[.string (bs L),.string (bs (wd ++ [32]))] w fun e w'=>e=.returned (.bool (hasW wd L))∧w=w'):=hideIt (fun w=>hasp_c L (wd ++ [32]) w)
 have q:bs wd ++ ⟨#[32]⟩=bs (wd ++ [32]):=by rw [show (⟨#[32]⟩:ByteArray)=bs [32] from rfl,bs_append]
 have sz:(bs wd).size≤1000:=by rw [bs_size];exact hw
 obtain ⟨B,hB⟩:∃ B,bs (wd ++ [32])=B:=⟨_,rfl⟩
 obtain ⟨D,hD⟩:∃ D,bs wd=D:=⟨_,rfl⟩
 rw [hB] at HP q
 rw [hD] at sz q ⊢
 have t1:¬ 9223372036854775807 < D.size + 1:=by omega
 clear hR hB hD
 go_enter Tryz.func170,Tryz.ntmps170
 go_wp2_with (first | (go_at_call 218;refine (HP.out _).mono ?_;rintro e w2 ⟨rfl,rfl⟩))
 go_ret
 exact ⟨rfl,rfl⟩
def undN (L:List UInt8):Nat:=(Cb.Dd.und L).getD 0
def undO (L:List UInt8):Bool:=(Cb.Dd.und L).isSome
theorem udV_eq (L:List UInt8):Cb.udV (Cb.Dd.und L)=.tuple #[.int .u64 (undN L:Int),.int .i64 (if undO L=true then 0 else 6)]:=by
 unfold undN undO
 cases Cb.Dd.und L with
 | none=>rfl
 | some t=>rfl
set_option maxHeartbeats 1600000 in
set_option maxRecDepth 100000 in
theorem takeNumber_any (N:Nat) (wd L:List UInt8) (bd:Bool) (w:World) (hR:Rdr w N (bs L) bd) (hL:L.length≤1000000) (hw:wd.length≤1000) (hk:Ok w) (hK:∀ w',w.grownBy w' (some N)→Ok w') :
  Calls Tryz.prog 172 #[.pointer (some ⟨N,0,none⟩),.string (bs wd)] w fun e w'=>e=.returned (.int .u64 (undN (tkT wd L):Int))∧Rdr w' N (bs (tkR L)) (bd || !(tkO wd L && undO (tkT wd L)))∧w.grownBy w' (some N):=by
 have HT:=hideIt (take_any N wd L bd w hR hL hw hk.max)
 have HU:=hideIt (fun w h=>undec_c (tkT wd L) w (by have:=tkT_len wd L;omega) h)
 have HKK:=hideIt hK
 rw [udV_eq] at HU
 obtain ⟨T,hT⟩:∃ T,bs (tkT wd L)=T:=⟨_,rfl⟩
 obtain ⟨U,hU⟩:∃ U,undN (tkT wd L)=U:=⟨_,rfl⟩
 obtain ⟨o,ho⟩:∃ o,tkO wd L=o:=⟨_,rfl⟩
 obtain ⟨u,hu⟩:∃ u,undO (tkT wd L)=u:=⟨_,rfl⟩
 obtain ⟨R,hRr⟩:∃ R,bs (tkR L)=R:=⟨_,rfl⟩
 rw [hT,ho,hRr] at HT
 rw [hT,hU,hu] at HU
 rw [hU,ho,hu,hRr]
 have HX:(bd || !(o && u))=((bd || !o) || !u):=by cases bd <;> cases o <;> cases u <;> rfl
 obtain ⟨x,hx⟩:∃ x,(bd || !o)=x:=⟨_,rfl⟩
 rw [hx] at HX HT
 rw [HX]
 clear hT hU ho hu hRr hR hx HX hk hK
 cases u with
 | true =>
  have HU2:Hid (∀ w,Ok w→Calls Tryz.prog 131 #[.string T] w fun e w'=>e=.returned (.tuple #[.int .u64 (U:Int),.int .i64 0])∧Below w.heap.size w w'):=HU
  clear HU
  go_enter Tryz.func172,Tryz.ntmps172
  go_wp2_with (first | (go_at_call 171;refine HT.out.mono ?_;rintro e w1 ⟨rfl,hr1,hg1⟩;have HR1:=hideIt hr1) | (go_at_call 131;refine (HU2.out _ (HKK.out _ hg1)).mono ?_;rintro e w2 ⟨rfl,hb2⟩;have HR2:=hideIt (HR1.out.below hb2);have c0:=HR2.out.c0;have c1:=HR2.out.c1;have f0:=HR2.out.f0;have f1:=HR2.out.f1))
  all_goals go_ret
  all_goals exact ⟨rfl,Rdr.cast (HR2.out.set1 _) (by simp_all),(hg1.trans (grown_of hb2 _)).trans (grown_set _ _ _ _)⟩
 | false =>
  have HU2:Hid (∀ w,Ok w→Calls Tryz.prog 131 #[.string T] w fun e w'=>e=.returned (.tuple #[.int .u64 (U:Int),.int .i64 6])∧Below w.heap.size w w'):=HU
  clear HU
  go_enter Tryz.func172,Tryz.ntmps172
  go_wp2_with (first | (go_at_call 171;refine HT.out.mono ?_;rintro e w1 ⟨rfl,hr1,hg1⟩;have HR1:=hideIt hr1) | (go_at_call 131;refine (HU2.out _ (HKK.out _ hg1)).mono ?_;rintro e w2 ⟨rfl,hb2⟩;have HR2:=hideIt (HR1.out.below hb2);have c0:=HR2.out.c0;have c1:=HR2.out.c1;have f0:=HR2.out.f0;have f1:=HR2.out.f1))
  all_goals go_ret
  all_goals exact ⟨rfl,Rdr.cast (HR2.out.set1 _) (by simp_all),(hg1.trans (grown_of hb2 _)).trans (grown_set _ _ _ _)⟩
end Ob
end Go.Proofs.YtogjlepdejonpaaGreatDoor
namespace Go.Proofs.YtogjlepdejonpaaGreatDoor
namespace Ob
open Go.RowKit Go.Shelf
def cmZ : Cm := ⟨⟨#[]⟩, .slice none 0 0, [], ⟨#[]⟩, 0, ⟨#[]⟩⟩
/-- The parents that the lines of a body tell, what stands behind them, and whether all are of the form. -/
def gPs : Nat → List UInt8 → List ByteArray × List UInt8 × Bool
  | 0, L => ([], L, true)
  | f + 1, L => if hasW parentW L = true then (unhB (tkT parentW L) :: (gPs f (tkR L)).1, (gPs f (tkR L)).2.1, tkO parentW L && idO (tkT parentW L) && (gPs f (tkR L)).2.2) else ([], L, true)
theorem hasW_ne {wd L : List UInt8} (h : hasW wd L = true) : L ≠ [] := by
  intro e
  subst e
  unfold hasW at h
  cases wd <;> simp at h
theorem tkR_less {L : List UInt8} (h : L ≠ []) : (tkR L).length < L.length := by
  unfold tkR fsl
  cases hc : cutc 10 L with
  | none => simp; exact List.length_pos_iff.2 h
  | some p =>
    obtain ⟨a, r⟩ := p
    obtain ⟨e, -⟩ := cutc_some 10 L a r hc
    have := congrArg List.length e
    simp at this
    simp only
    omega
/-- How much a reader has left. -/
def restOf (w : World) (N : Nat) : Nat := match w.cell? ⟨N, 0, none⟩ with
  | some (.string s) => s.size
  | _ => 0
/-- What stands in memory while a commit is read. -/
structure GC (w0 : World) (M : Nat) (rest : List UInt8) (bd : Bool) (c : Cm) (w : World) : Prop where
  rd : Rdr w (w0.heap.size + 1) (bs rest) bd
  res : CBox w w0.heap.size 169 cmZ
  cb : CBox w M 169 c
  far : w0.heap.size + 2 ≤ M
  bel : Below w0.heap.size w0 w
  row : w.ownsRow (M + 1) 9 1 c.pv c.ps.length (c.ps.map .string)
theorem row_ge1 {B n : Nat} {t : TypeId} {v : Value} {xs : List Value} {w : World} (h : w.ownsRow B t 1 v n xs) : ∀ k, v.ownBlock = some k → B ≤ k := by
  intro k hk
  rcases h.2 with ⟨e, _⟩ | ⟨g, cap, cur, e, h1, _⟩
  · subst e; simp [Value.ownBlock] at hk
  · subst e; simp [Value.ownBlock] at hk; omega
theorem row_form {B n : Nat} {t : TypeId} {v : Value} {xs : List Value} {w : World} (h : w.ownsRow B t 1 v (n + 1) xs) : ∃ g c, v = .slice (some ⟨g, 0, none⟩) (n + 1) c := by
  rcases h.2 with ⟨_, e⟩ | ⟨g, cap, cur, e, _⟩
  · omega
  · exact ⟨g, cap, e⟩
theorem row_kept {B n : Nat} {t : TypeId} {v : Value} {xs : List Value} {w w' : World} (h : w.ownsRow B t 1 v n xs) {k : Nat} (hk : k < B) (hg : w.grownBy w' (some k)) : w'.ownsRow B t 1 v n xs := by
  refine h.kept hg ?_
  cases hv : v.ownBlock with
  | none => exact .inl rfl
  | some g =>
    refine .inr (fun e => ?_)
    have := row_ge1 h g hv
    simp only [Option.some.injEq] at e
    omega
theorem row_below {B n : Nat} {t : TypeId} {v : Value} {xs : List Value} {w w' : World} (h : w.ownsRow B t 1 v n xs) (hb : Below w.heap.size w w') : w'.ownsRow B t 1 v n xs := by
  refine h.kept (grown_of hb none) ?_
  cases hv : v.ownBlock with
  | none => exact .inl rfl
  | some g => exact .inr (by simp)
theorem GC.below {w0 w w' : World} {M : Nat} {rest : List UInt8} {bd : Bool} {c : Cm} (h : GC w0 M rest bd c w) (hb : Below w.heap.size w w') : GC w0 M rest bd c w' :=
  ⟨h.rd.below hb, h.res.below hb, h.cb.below hb, h.far, below2 h.bel hb, row_below h.row hb⟩
theorem GC.take {w0 w w' : World} {M : Nat} {rest rest' : List UInt8} {bd bd' : Bool} {c : Cm} (h : GC w0 M rest bd c w) (hr : Rdr w' (w0.heap.size + 1) (bs rest') bd') (hg : w.grownBy w' (some (w0.heap.size + 1))) : GC w0 M rest' bd' c w' :=
  ⟨hr, h.res.grown hg (by omega), h.cb.grown hg (by have := h.far; omega), h.far, h.bel.grown hg (h.bel.size) (fun k hk => by simp at hk; omega), row_kept h.row (by have := h.far; omega) hg⟩
theorem GC.put {w0 w w' : World} {M : Nat} {rest : List UInt8} {bd : Bool} {c c' : Cm} (h : GC w0 M rest bd c w) (hg : w.grownBy w' (some M)) (hc : CBox w' M 169 c') (he : c'.pv = c.pv ∧ c'.ps = c.ps) : GC w0 M rest bd c' w' :=
  ⟨h.rd.grown hg (by have := h.far; omega), h.res.grown hg (by have := h.far; omega), hc, h.far, h.bel.grown hg (h.bel.size) (fun k hk => by have := h.far; simp at hk; omega), by rw [he.1, he.2]; exact row_kept h.row (by omega) hg⟩
theorem CBox.set2 {w : World} {N : Nat} {T : TypeId} {c : Cm} (h : CBox w N T c) (s : ByteArray) : CBox (w.setCell ⟨N, 2, none⟩ (.string s)) N T { c with au := s } := ⟨by simp [World.setCell, h.blk, Array.getElem?_modify]⟩
theorem CBox.set3 {w : World} {N : Nat} {T : TypeId} {c : Cm} (h : CBox w N T c) (k : Nat) : CBox (w.setCell ⟨N, 3, none⟩ (.int .u64 (k : Int))) N T { c with tm := k } := ⟨by simp [World.setCell, h.blk, Array.getElem?_modify]⟩
theorem CBox.set4 {w : World} {N : Nat} {T : TypeId} {c : Cm} (h : CBox w N T c) (s : ByteArray) : CBox (w.setCell ⟨N, 4, none⟩ (.string s)) N T { c with tx := s } := ⟨by simp [World.setCell, h.blk, Array.getElem?_modify]⟩
theorem CBox.set1 {w : World} {N : Nat} {T : TypeId} {c : Cm} (h : CBox w N T c) (v : Value) (l : List ByteArray) : CBox (w.setCell ⟨N, 1, none⟩ v) N T { c with pv := v, ps := l } := ⟨by simp [World.setCell, h.blk, Array.getElem?_modify]⟩
theorem GC.set2 {w0 w : World} {M : Nat} {rest : List UInt8} {bd : Bool} {c : Cm} (h : GC w0 M rest bd c w) (s : ByteArray) : GC w0 M rest bd { c with au := s } (w.setCell ⟨M, 2, none⟩ (.string s)) := h.put (grown_set _ _ _ _) (h.cb.set2 s) ⟨rfl, rfl⟩
theorem GC.set3 {w0 w : World} {M : Nat} {rest : List UInt8} {bd : Bool} {c : Cm} (h : GC w0 M rest bd c w) (k : Nat) : GC w0 M rest bd { c with tm := k } (w.setCell ⟨M, 3, none⟩ (.int .u64 (k : Int))) := h.put (grown_set _ _ _ _) (h.cb.set3 k) ⟨rfl, rfl⟩
theorem GC.set4 {w0 w : World} {M : Nat} {rest : List UInt8} {bd : Bool} {c : Cm} (h : GC w0 M rest bd c w) (s : ByteArray) : GC w0 M rest bd { c with tx := s } (w.setCell ⟨M, 4, none⟩ (.string s)) := h.put (grown_set _ _ _ _) (h.cb.set4 s) ⟨rfl, rfl⟩
theorem GC.start {w0 W0 w1 : World} {rest : List UInt8} {bd : Bool} (hb : Below w0.heap.size w0 W0) (hz : CBox W0 w0.heap.size 169 cmZ) (hs : w0.heap.size + 2 ≤ W0.heap.size) (hr : Rdr w1 (w0.heap.size + 1) (bs rest) bd) (hg : W0.grownBy w1 (some (w0.heap.size + 1))) (s : ByteArray) :
    GC w0 w1.heap.size rest bd ⟨s, .slice none 0 0, [], ⟨#[]⟩, 0, ⟨#[]⟩⟩ (w1.alloc (.cells #[.string s, .slice none 0 0, .string ⟨#[]⟩, .int .u64 0, .string ⟨#[]⟩] 169)) := by
  have h1 : Below w0.heap.size w0 w1 := hb.grown hg hb.size (fun k hk => by simp at hk; omega)
  have hz1 : CBox w1 w0.heap.size 169 cmZ := hz.grown hg (by omega)
  have hn := new_below w1 (.cells #[.string s, .slice none 0 0, .string ⟨#[]⟩, .int .u64 0, .string ⟨#[]⟩] 169)
  exact ⟨hr.below hn, hz1.below hn, ⟨Cb.alloc_at rfl⟩, Nat.le_trans hs hg.size, below2 h1 hn, ⟨rfl, .inl ⟨rfl, rfl⟩⟩⟩
theorem Rdr.grownO {w w' : World} {N : Nat} {r : Option Nat} {s : ByteArray} {b : Bool} (h : Rdr w N s b) (hg : w.grownBy w' r) (hne : some N ≠ r) : Rdr w' N s b := ⟨(hg.block N h.lt hne).trans h.blk⟩
theorem CBox.grownO {w w' : World} {N : Nat} {r : Option Nat} {T : TypeId} {c : Cm} (h : CBox w N T c) (hg : w.grownBy w' r) (hne : some N ≠ r) : CBox w' N T c := ⟨(hg.block N h.lt hne).trans h.blk⟩
theorem GC.append {w0 w1 w3 : World} {M : Nat} {rest : List UInt8} {bd : Bool} {c : Cm} (h : GC w0 M rest bd c w1) {o : Obj} {v3 : Value} {U : ByteArray} (hg : (w1.alloc o).grownBy w3 c.pv.ownBlock) (hown : w3.ownsRow (M + 1) 9 1 v3 (c.ps.length + 1) (c.ps.map .string ++ [.string U])) :
    CBox w3 M 169 c ∧ GC w0 M rest bd { c with pv := v3, ps := c.ps ++ [U] } (w3.setCell ⟨M, 1, none⟩ v3) := by
  have hn := new_below w1 o
  have ne : ∀ k, k ≤ M → some k ≠ c.pv.ownBlock := fun k hk e => by
    have := row_ge1 h.row k e.symm
    omega
  have hf := h.far
  have hc3 : CBox w3 M 169 c := (h.cb.below hn).grownO hg (ne M (by omega))
  have hgs := grown_set w3 M 1 v3
  refine ⟨hc3, ⟨((h.rd.below hn).grownO hg (ne _ (by omega))).grown hgs (by omega), ((h.res.below hn).grownO hg (ne _ (by omega))).grown hgs (by omega), hc3.set1 v3 _, hf, ?_, ?_⟩⟩
  · have b1 : Below w0.heap.size w0 w3 := (below2 h.bel hn).grown hg ((below2 h.bel hn).size) (fun k hk => by have := row_ge1 h.row k hk; omega)
    exact b1.grown hgs b1.size (fun k hk => by simp at hk; omega)
  · show (w3.setCell ⟨M, 1, none⟩ v3).ownsRow (M + 1) 9 1 v3 (c.ps ++ [U]).length ((c.ps ++ [U]).map .string)
    rw [List.length_append, List.map_append]
    exact row_kept hown (by omega) hgs
theorem GC.drew {w0 w : World} {M : Nat} {rest : List UInt8} {bd : Bool} {c : Cm} (h : GC w0 M rest bd c w) : GC w0 M rest bd c w.drew := h.below ((Below.refl _ _).drew)
theorem infoS : (Tryz.prog.info? 9).map (fun i => (i.zero, i.size, i.bytes)) = some (some (.string ⟨#[]⟩), 1, 16) := by kernel_rfl
theorem one_str {w : World} (U : ByteArray) (j : Nat) (u : Value) (h : [Value.string U][j]? = some u) : (w.alloc (.cells #[.string U] 9)).cell? ((⟨w.heap.size, 0, none⟩ : Addr).add j) = some u := by
  rw [Addr.add_lit, Nat.zero_add, World.cell?_alloc_at _ _ _ _ rfl]
  match j, h with
  | 0, h => simpa using h
theorem gPs_step (f : Nat) (L : List UInt8) (hf : L.length ≤ f) (h : hasW parentW L = true) : ∃ g, (tkR L).length ≤ g ∧ gPs f L = (unhB (tkT parentW L) :: (gPs g (tkR L)).1, (gPs g (tkR L)).2.1, tkO parentW L && idO (tkT parentW L) && (gPs g (tkR L)).2.2) := by
  have := tkR_less (hasW_ne h)
  cases f with
  | zero => omega
  | succ f => exact ⟨f, by omega, by rw [gPs, if_pos h]⟩
theorem gPs_end (f : Nat) (L : List UInt8) (h : hasW parentW L = false) : gPs f L = ([], L, true) := by
  cases f with
  | zero => rfl
  | succ f => rw [gPs, if_neg (by rw [h]; decide)]
/-- Is a body of a commit's form? -/
def gCo (L : List UInt8) : Bool := tkO treeW L && idO (tkT treeW L) && (gPs (tkR L).length (tkR L)).2.2 && tkO authorW (gPs (tkR L).length (tkR L)).2.1 && (tkO timeW (tkR (gPs (tkR L).length (tkR L)).2.1) && undO (tkT timeW (tkR (gPs (tkR L).length (tkR L)).2.1))) && txO (tkR (tkR (gPs (tkR L).length (tkR L)).2.1))
/-- The commit that a body's lines tell. -/
def gCm (L : List UInt8) : Cm := ⟨unhB (tkT treeW L), .slice none 0 0, (gPs (tkR L).length (tkR L)).1, bs (tkT authorW (gPs (tkR L).length (tkR L)).2.1), undN (tkT timeW (tkR (gPs (tkR L).length (tkR L)).2.1)), bs (txT (tkR (tkR (gPs (tkR L).length (tkR L)).2.1)))⟩
def gCz (L : List UInt8) : Int := if gCo L = true then comE (gCm L) else 6
def GetTo (w : World) (L : List UInt8) (e : Ending) (w' : World) : Prop := ∃ c : Cm, e = .returned (.tuple #[cmV c, .int .i64 (gCz L)]) ∧ SRow w' c.pv c.ps ∧ (gCz L = 0 → c = { gCm L with pv := c.pv }) ∧ (gCz L ≠ 0 → c = cmZ) ∧ Below w.heap.size w w'
theorem SRow.of_row {w : World} {B : Nat} {v : Value} {l : List ByteArray} (h : w.ownsRow B 9 1 v l.length (l.map .string)) : SRow w v l := by
  rcases h.2 with ⟨e, h0⟩ | ⟨g, cap, cur, e, h1, hg, h2, h3, r⟩
  · exact ⟨none, 0, by rw [e, h0], by omega, ⟨by unfold maxLen; omega, fun _ => rfl⟩, fun hp => by omega⟩
  · subst e
    have hlt : g < w.heap.size := by
      rcases Nat.lt_or_ge g w.heap.size with h' | h'
      · exact h'
      · simp [Array.getElem?_eq_none h'] at hg
    refine ⟨some ⟨g, 0, none⟩, cap, rfl, h2, ⟨h3, fun h => by cases h⟩, fun _ => ⟨g, 0, rfl, hlt, fun j x hj => ?_⟩⟩
    have hl : j < l.length := (List.getElem?_eq_some_iff.1 hj).1
    rw [Nat.zero_add, h.cellAt j (by omega), List.getElem?_map, hj]
    rfl
theorem SRow.nil (w : World) : SRow w (.slice none 0 0) [] := ⟨none, 0, rfl, Nat.le_refl _, ⟨Nat.zero_le _, fun _ => rfl⟩, fun h => by simp at h⟩
theorem GC.flag {w0 w : World} {M : Nat} {rest : List UInt8} {bd b : Bool} {c : Cm} (h : GC w0 M rest bd c w) (e : bd = b) : ∃ y, y = b ∧ GC w0 M rest y c w := ⟨bd, e, h⟩
theorem put5 {w w1 : World} (h : Below w.heap.size w w1) (a b c d e : Value) : Below w.heap.size w (((((w1.setCell ⟨w.heap.size, 0, none⟩ a).setCell ⟨w.heap.size, 1, none⟩ b).setCell ⟨w.heap.size, 2, none⟩ c).setCell ⟨w.heap.size, 3, none⟩ d).setCell ⟨w.heap.size, 4, none⟩ e) :=
  ((((h.setCell (p := ⟨w.heap.size, 0, none⟩) (Nat.le_refl _) _).setCell (p := ⟨w.heap.size, 1, none⟩) (Nat.le_refl _) _).setCell (p := ⟨w.heap.size, 2, none⟩) (Nat.le_refl _) _).setCell (p := ⟨w.heap.size, 3, none⟩) (Nat.le_refl _) _).setCell (p := ⟨w.heap.size, 4, none⟩) (Nat.le_refl _) _
theorem grown5 (w1 : World) (N : Nat) (a b c d e : Value) : w1.grownBy (((((w1.setCell ⟨N, 0, none⟩ a).setCell ⟨N, 1, none⟩ b).setCell ⟨N, 2, none⟩ c).setCell ⟨N, 3, none⟩ d).setCell ⟨N, 4, none⟩ e) (some N) :=
  ((((grown_set _ _ _ _).trans (grown_set _ _ _ _)).trans (grown_set _ _ _ _)).trans (grown_set _ _ _ _)).trans (grown_set _ _ _ _)
set_option maxHeartbeats 6400000 in
set_option maxRecDepth 100000 in
theorem getCommit_any (L : List UInt8) (w : World) (hL : L.length ≤ 1000000) (hk : Ok w) :
    Calls Tryz.prog 134 #[.string (bs L)] w fun e w' => GetTo w L e w' := by
  have HOK := hideIt hk
  have HTO : Hid (∀ e w', GetTo w L e w' ↔ ∃ c : Cm, e = .returned (.tuple #[cmV c, .int .i64 (gCz L)]) ∧ SRow w' c.pv c.ps ∧ (gCz L = 0 → c = { gCm L with pv := c.pv }) ∧ (gCz L ≠ 0 → c = cmZ) ∧ Below w.heap.size w w') := hideIt (fun _ _ => Iff.rfl)
  obtain ⟨W0, hW0⟩ : ∃ W0, (w.alloc (.cells #[.string ⟨#[]⟩, .slice none 0 0, .string ⟨#[]⟩, .int .u64 0, .string ⟨#[]⟩] 169)).alloc (.cells #[.string (bs L), .bool false] 204) = W0 := ⟨_, rfl⟩
  have hb0 : Below w.heap.size w W0 := by rw [← hW0]; exact ((Below.refl _ _).alloc (Nat.le_refl _) _).alloc (by simp) _
  have hr0 : Rdr W0 (w.heap.size + 1) (bs L) false := ⟨by rw [← hW0]; exact Cb.alloc_at (by simp)⟩
  have hz0 : CBox W0 w.heap.size 169 cmZ := ⟨by rw [← hW0, Below.heap_alloc _ _ _ (by simp)]; exact Cb.alloc_at rfl⟩
  have hs0 : w.heap.size + 2 ≤ W0.heap.size := by rw [← hW0]; simp
  have HI := hideIt (takeID_any (w.heap.size + 1) treeW L false W0 hr0 hL (by decide) (hk.max.below hb0))
  have hL1 : (tkR L).length ≤ 1000000 := Nat.le_trans (tkR_len L) hL
  have HST := hideIt (fun (w1 : World) (bd : Bool) (hr : Rdr w1 (w.heap.size + 1) (bs (tkR L)) bd) hg => GC.start hb0 hz0 hs0 hr hg (unhB (tkT treeW L)))
  rw [← hW0] at HI HST
  clear hW0 hb0 hr0 hz0 hk hs0
  go_enter Tryz.func134, Tryz.ntmps134
  go_wp2_with (first
    | (go_at_call 169; refine HI.out.mono ?_; rintro e w1 ⟨rfl, hr1, hg1⟩; have G1 := hideIt (HST.out _ _ hr1 hg1); clear hr1 hg1))
  obtain ⟨i0, hi0, hz0, hz1, hz2⟩ := info_parts infoS
  have HG0 : Hid (∃ b1, b1 = !(tkO treeW L && idO (tkT treeW L)) ∧ GC w w1.heap.size (tkR L) b1 ⟨unhB (tkT treeW L), .slice none 0 0, [], ⟨#[]⟩, 0, ⟨#[]⟩⟩ (w1.alloc (.cells #[.string (unhB (tkT treeW L)), .slice none 0 0, .string ⟨#[]⟩, .int .u64 0, .string ⟨#[]⟩] 169))) := hideIt ⟨_, by simp, G1.out⟩
  obtain ⟨M, hM⟩ : ∃ M, w1.heap.size = M := ⟨_, rfl⟩
  obtain ⟨T, hT⟩ : ∃ T, unhB (tkT treeW L) = T := ⟨_, rfl⟩
  have HGT := hideIt hT
  rw [hM, hT] at HG0
  rw [hM, hT]
  obtain ⟨b1, hb1, g1⟩ := HG0.out
  have HB1 := hideIt hb1
  have HG1 := hideIt g1
  clear HG0 g1 hb1 G1 HST HI hM hT
  go_loopw [] (fun wr => ∃ (R : List UInt8) (f : Nat) (bd : Bool) (v : Value) (ps : List ByteArray) (good : Bool), R.length ≤ f ∧ R.length + ps.length ≤ 1000000 ∧ GC w M R bd ⟨T, v, ps, ⟨#[]⟩, 0, ⟨#[]⟩⟩ wr ∧ bd = (b1 || !good) ∧ gPs (tkR L).length (tkR L) = (ps ++ (gPs f R).1, (gPs f R).2.1, good && (gPs f R).2.2)) (fun wr => restOf wr (w.heap.size + 1))
  case atStart => exact ⟨tkR L, (tkR L).length, b1, _, [], true, Nat.le_refl _, by simpa using hL1, HG1.out, by simp, by simp⟩
  case round =>
    obtain ⟨R, f, bd, v, ps, good, hf, hRl, g, hbd, hgp⟩ := hrel
    have HG := hideIt g
    have HBD := hideIt hbd
    have HGP := hideIt hgp
    have HNX : Hid (Calls Tryz.prog 170 #[.pointer (some ⟨w.heap.size + 1, 0, none⟩), .string ⟨#[112, 97, 114, 101, 110, 116]⟩] wr fun e w' => e = .returned (.bool (hasW parentW R)) ∧ wr = w') := hideIt (next_any (w.heap.size + 1) parentW R bd wr g.rd (by decide))
    have HRO : Hid (restOf wr (w.heap.size + 1) = R.length) := hideIt (by unfold restOf; rw [g.rd.c0]; exact bs_size R)
    clear g hbd hgp
    cases hh : hasW parentW R with
    | true =>
      rw [hh] at HNX
      obtain ⟨f2, hf2, hgs⟩ := gPs_step f R hf hh
      have HGS := hideIt hgs
      have hless := tkR_less (hasW_ne hh)
      have HGD := hideIt HG.out.drew
      have HTK : Hid (Calls Tryz.prog 169 #[.pointer (some ⟨w.heap.size + 1, 0, none⟩), .string ⟨#[112, 97, 114, 101, 110, 116]⟩] wr.drew fun e w' => e = .returned (.string (unhB (tkT parentW R))) ∧ Rdr w' (w.heap.size + 1) (bs (tkR R)) (bd || !(tkO parentW R && idO (tkT parentW R))) ∧ wr.drew.grownBy w' (some (w.heap.size + 1))) := hideIt (takeID_any (w.heap.size + 1) parentW R bd wr.drew HGD.out.rd (by omega) (by decide) (HOK.out.below HGD.out.bel).max)
      obtain ⟨U, hU⟩ : ∃ U, unhB (tkT parentW R) = U := ⟨_, rfl⟩
      rw [hU] at HTK HGS
      have k1 := HGD.out.cb.c1
      simp only at k1
      clear hgs hU hh
      go_wp2_with (first | (go_at_call 170; refine HNX.out.mono ?_; rintro e w2 ⟨rfl, rfl⟩))
      go_region_law (first
        | (refine Cb.step_append_own (by rfl) _ _ 22 (by rfl) (M + 1) 9 i0 (.string ⟨#[]⟩) 1 16 Tryz.underlying22 hi0 hz0 hz1 hz2 rfl (by decide) _ _ _ (by rfl) (G2.out.row.alloc _) ⟨w4.heap.size, 0, none⟩ 1 1 [.string U] (by rfl) rfl (one_str (w := w4) U) (fun u hu => by simp at hu; subst hu; rfl) (by unfold maxLen; simp only; omega) (by simp only; omega) (by have := G2.out.cb.lt; simp; omega) ?_; intro v3 w3 hown3 hg3; obtain ⟨g3, cp3, rfl⟩ := row_form hown3; have A3 := hideIt (G2.out.append hg3 hown3); have x1 := A3.out.1.c1; have y1 := A3.out.1.f1; dsimp only at x1)
        | (go_simp; go_at_call 169; refine HTK.out.mono ?_; rintro e w4 ⟨rfl, hr4, hg4⟩; dsimp only; have G2 := hideIt (HGD.out.take hr4 hg4); have m1 := G2.out.cb.c1; have m2 := (G2.out.cb.below (new_below w4 (.cells #[.string U] 9))).c1; dsimp only at m1 m2; clear hr4 hg4))
      all_goals go_wp2
      all_goals go_roundw
      all_goals first
        | (refine ⟨tkR R, f2, _, _, ps ++ [U], good && (tkO parentW R && idO (tkT parentW R)), hf2, ?_, A3.out.2, ?_, ?_⟩
           · rw [List.length_append]
             simp only [List.length_cons, List.length_nil]
             omega
           · rw [HBD.out]
             cases b1 <;> cases good <;> simp
           · rw [HGP.out, HGS.out]
             simp [Bool.and_assoc])
        | (show restOf _ _ < restOf _ _
           have e1 : restOf (w3.setCell ⟨M, 1, none⟩ (.slice (some ⟨g3, 0, none⟩) (ps.length + 1) cp3)) (w.heap.size + 1) = (tkR R).length := by unfold restOf; rw [A3.out.2.rd.c0]; exact bs_size _
           rw [e1, HRO.out]
           exact hless)
    | false =>
      rw [hh] at HNX
      have HGE : Hid (gPs (tkR L).length (tkR L) = (ps, R, good)) := hideIt (by rw [HGP.out, gPs_end f R hh]; simp)
      have HCO : Hid ((bd || !tkO authorW R || !(tkO timeW (tkR R) && undO (tkT timeW (tkR R))) || !txO (tkR (tkR R))) = !gCo L) := hideIt (by
        unfold gCo
        rw [HGE.out, HBD.out, HB1.out]
        simp only
        cases tkO treeW L <;> cases idO (tkT treeW L) <;> cases good <;> cases tkO authorW R <;> cases (tkO timeW (tkR R) && undO (tkT timeW (tkR R))) <;> cases txO (tkR (tkR R)) <;> rfl)
      have HCM : Hid (gCm L = ⟨T, .slice none 0 0, ps, bs (tkT authorW R), undN (tkT timeW (tkR R)), bs (txT (tkR (tkR R)))⟩) := hideIt (by unfold gCm; rw [HGE.out, HGT.out])
      have HCZ : Hid (gCz L = if gCo L = true then comE (gCm L) else 6) := rfl
      have HCK := hideIt (fun (v : Value) (w' : World) (hr : SRow w' v ps) (hm : MaxAt w') => checkCommit_any ⟨T, v, ps, bs (tkT authorW R), undN (tkT timeW (tkR R)), bs (txT (tkR (tkR R)))⟩ w' hr (by simp only; rw [bs_size]; exact Nat.le_trans (tkT_len _ _) (by omega)) (by simp only; rw [bs_size]; exact Nat.le_trans (txT_len _) (Nat.le_trans (tkR_len _) (Nat.le_trans (tkR_len _) (by omega)))) hm)
      have HCE : Hid (∀ v, comE ⟨T, v, ps, bs (tkT authorW R), undN (tkT timeW (tkR R)), bs (txT (tkR (tkR R)))⟩ = comE (gCm L)) := hideIt (fun v => by rw [HCM.out]; rfl)
      obtain ⟨z, hz⟩ : ∃ z, comE (gCm L) = z := ⟨_, rfl⟩
      rw [hz] at HCE HCZ
      unfold cmV at HCK
      simp only at HCK
      clear hz
      clear HGP hh
      obtain ⟨av, cv, hv, -, -, -⟩ := SRow.of_row HG.out.row
      simp only at hv
      subst hv
      have hRl1 : R.length ≤ 1000000 := by omega
      have hR2 : (tkR R).length ≤ 1000000 := Nat.le_trans (tkR_len _) hRl1
      have hR3 : (tkR (tkR R)).length ≤ 1000000 := Nat.le_trans (tkR_len _) hR2
      have HOKB : Hid (∀ w', Below w.heap.size w w' → Ok w') := hideIt (fun w' h => HOK.out.below h)
      have HA := hideIt (take_any (w.heap.size + 1) authorW R bd wr HG.out.rd hRl1 (by decide) (HOKB.out _ HG.out.bel).max)
      have HC1 := hideIt (fun w => clone_c (tkT authorW R) w (Nat.le_trans (tkT_len _ _) hRl1))
      have HTM := hideIt (fun (w1 : World) (bd : Bool) (c : Cm) (g : GC w M (tkR R) bd c w1) => takeNumber_any (w.heap.size + 1) timeW (tkR R) bd w1 g.rd hR2 (by decide) (HOKB.out _ g.bel) (fun w' hg => HOKB.out _ (g.bel.grown hg g.bel.size (fun k hk => by simp at hk; omega))))
      have HX := hideIt (fun (w1 : World) (bd : Bool) (c : Cm) (g : GC w M (tkR (tkR R)) bd c w1) => takeText_any (w.heap.size + 1) (tkR (tkR R)) bd w1 g.rd)
      have HC2 := hideIt (fun w => clone_c (txT (tkR (tkR R))) w (Nat.le_trans (txT_len _) hR3))
      have HG4 := hideIt (fun (w4 : World) (hr : Rdr w4 (w.heap.size + 1) (bs (tkR R)) (bd || !tkO authorW R)) hg => HG.out.take (rest' := tkR R) hr hg)
      go_wp2_with (first
        | (go_at_call 170; refine HNX.out.mono ?_; rintro e w2 ⟨rfl, rfl⟩)
        | (go_at_call 171; refine HA.out.mono ?_; rintro e w4 ⟨rfl, hr4, hg4⟩; have G4 := hideIt (HG4.out _ hr4 hg4); clear hr4 hg4)
        | (go_at_call 46; refine (HC2.out _).mono ?_; rintro e w8 ⟨rfl, hb8⟩; obtain ⟨y, hy, g8⟩ := (G7.out.below hb8).flag HCO.out; have HY := hideIt hy; have G8 := hideIt g8; clear hy g8; have a0 := G8.out.cb.c0; have a1 := G8.out.cb.c1; have a2 := G8.out.cb.c2; have a3 := G8.out.cb.c3; have a4 := G8.out.cb.c4; have b4 := G8.out.cb.f4; have cr := G8.out.rd.c1; have e0 := G8.out.res.c0; have e1 := G8.out.res.c1; have e2 := G8.out.res.c2; have e3 := G8.out.res.c3; have e4 := G8.out.res.c4; have g0 := G8.out.res.f0; have g1 := G8.out.res.f1; have g2 := G8.out.res.f2; have g3 := G8.out.res.f3; have g4 := G8.out.res.f4; have hn1 : ¬ M = w.heap.size := (by have := G8.out.far; omega); have hn2 : ¬ w.heap.size = M := (by have := G8.out.far; omega); dsimp only [cmZ] at a0 a1 a2 a3 a4 e0 e1 e2 e3 e4)
        | (go_at_call 46; refine (HC1.out _).mono ?_; rintro e w5 ⟨rfl, hb5⟩; have G5 := hideIt (G4.out.below hb5); have c52 := G5.out.cb.c2; have f52 := G5.out.cb.f2; dsimp only at c52)
        | (go_at_call 172; refine (HTM.out _ _ _ (G5.out.set2 _)).mono ?_; rintro e w6 ⟨rfl, hr6, hg6⟩; have G6 := hideIt ((G5.out.set2 _).take hr6 hg6); have c63 := G6.out.cb.c3; have f63 := G6.out.cb.f3; dsimp only at c63; clear hr6 hg6)
        | (go_at_call 173; refine (HX.out _ _ _ (G6.out.set3 _)).mono ?_; rintro e w7 ⟨rfl, hr7, hg7⟩; have G7 := hideIt ((G6.out.set3 _).take (rest' := []) hr7 hg7); clear hr7 hg7)
        | (go_at_call 174; refine (HCK.out _ _ (SRow.of_row (G8.out.set4 _).row) (HOKB.out _ (G8.out.set4 _).bel).max).mono ?_; rintro e w9 ⟨he9, hb9⟩; rw [HCE.out] at he9; subst he9; have G9 := hideIt ((G8.out.set4 _).below hb9); have d0 := G9.out.cb.c0; have d1 := G9.out.cb.c1; have d2 := G9.out.cb.c2; have d3 := G9.out.cb.c3; have d4 := G9.out.cb.c4; have e0 := G9.out.res.c0; have e1 := G9.out.res.c1; have e2 := G9.out.res.c2; have e3 := G9.out.res.c3; have e4 := G9.out.res.c4; have g0 := G9.out.res.f0; have g1 := G9.out.res.f1; have g2 := G9.out.res.f2; have g3 := G9.out.res.f3; have g4 := G9.out.res.f4; dsimp only [cmZ] at d0 d1 d2 d3 d4 e0 e1 e2 e3 e4))
      · have hg : gCz L = 6 := by
          rw [HCZ.out, if_neg]
          have := HY.out
          simp_all
        refine bodyPost_ret (v := .tuple #[cmV cmZ, .int .i64 6]) ?_ rfl ?_
        · rw [results_c2 rfl]
          go_simp
          rfl
        · refine (HTO.out _ _).2 ⟨cmZ, by rw [hg], SRow.nil _, fun h => by rw [hg] at h; omega, fun _ => rfl, put5 (G8.out.set4 _).bel _ _ _ _ _⟩
      · have hz0 : ¬ z = 0 := by simp_all
        have hg : gCz L = z := by
          rw [HCZ.out, if_pos]
          have := HY.out
          simp_all
        refine bodyPost_ret (v := .tuple #[cmV cmZ, .int .i64 z]) ?_ rfl ?_
        · rw [results_c2 rfl]
          go_simp
          rfl
        · refine (HTO.out _ _).2 ⟨cmZ, by rw [hg], SRow.nil _, fun h => absurd (hg.symm.trans h) hz0, fun _ => rfl, put5 G9.out.bel _ _ _ _ _⟩
      · have hz0 : z = 0 := by simp_all
        have hg : gCz L = 0 := by
          rw [HCZ.out, if_pos, hz0]
          have := HY.out
          simp_all
        refine bodyPost_ret (v := .tuple #[cmV ⟨T, .slice av ps.length cv, ps, bs (tkT authorW R), undN (tkT timeW (tkR R)), bs (txT (tkR (tkR R)))⟩, .int .i64 0]) ?_ rfl ?_
        · rw [results_c2 rfl]
          go_simp
          rfl
        · exact (HTO.out _ _).2 ⟨⟨T, .slice av ps.length cv, ps, bs (tkT authorW R), undN (tkT timeW (tkR R)), bs (txT (tkR (tkR R)))⟩, by rw [hg], SRow.of_row (row_kept G9.out.row (by have := G9.out.far; omega) (grown5 _ _ _ _ _ _ _)), fun _ => by rw [HCM.out], fun h => absurd hg h, put5 G9.out.bel _ _ _ _ _⟩
end Ob
end Go.Proofs.YtogjlepdejonpaaGreatDoor
namespace Go.Proofs.YtogjlepdejonpaaGreatDoor
namespace Ob
open Go.RowKit Go.Shelf
theorem ref_c (s:ByteArray) (w:World):Calls Tryz.prog 224 #[.string (⟨#[116,97,103,115,47]⟩ ++ s)] w fun e w'=>e=.returned (.bool (tagN s))∧Below w.heap.size w w':=ref_any _ w
structure TBox (w:World) (N:Nat) (T:TypeId) (t:Tg):Prop where
 blk:w.heap[N]? = some (.cells #[.string t.tgt,.int .i64 t.kd,.string t.nm,.string t.tx] T (0,0))
theorem TBox.lt {w:World} {N:Nat} {T:TypeId} {t:Tg} (h:TBox w N T t):N < w.heap.size:=by
 rcases Nat.lt_or_ge N w.heap.size with h' | h'
 ·exact h'
 ·have:=h.blk;simp [Array.getElem?_eq_none h'] at this
theorem TBox.c0 {w:World} {N:Nat} {T:TypeId} {t:Tg} (h:TBox w N T t):w.cell? ⟨N,0,none⟩=some (.string t.tgt):=cellAt h.blk rfl
theorem TBox.c1 {w:World} {N:Nat} {T:TypeId} {t:Tg} (h:TBox w N T t):w.cell? ⟨N,1,none⟩=some (.int .i64 t.kd):=cellAt h.blk rfl
theorem TBox.c2 {w:World} {N:Nat} {T:TypeId} {t:Tg} (h:TBox w N T t):w.cell? ⟨N,2,none⟩=some (.string t.nm):=cellAt h.blk rfl
theorem TBox.c3 {w:World} {N:Nat} {T:TypeId} {t:Tg} (h:TBox w N T t):w.cell? ⟨N,3,none⟩=some (.string t.tx):=cellAt h.blk rfl
theorem TBox.below {w w':World} {N:Nat} {T:TypeId} {t:Tg} (h:TBox w N T t) (hb:Below w.heap.size w w'):TBox w' N T t:=⟨(hb.block N h.lt).trans h.blk⟩
theorem TBox.new (w:World) (T:TypeId) (t:Tg):TBox (w.alloc (.cells #[.string t.tgt,.int .i64 t.kd,.string t.nm,.string t.tx] T)) w.heap.size T t:=⟨Cb.alloc_at rfl⟩
set_option maxHeartbeats 1600000 in
set_option maxRecDepth 100000 in
theorem checkTag_any (t:Tg) (w:World) (h2:t.nm.size≤1000000) (h3:t.tx.size≤1000000) :
  Calls Tryz.prog 176 #[tgV t] w fun e w'=>e=.returned (.int .i64 (tagE t))∧Below w.heap.size w w':=by
 have HNB:=hideIt (TBox.new w 172 t)
 obtain ⟨tgt,kd,nm,tx⟩:=t
 simp only at h2 h3
 unfold tgV
 simp only at HNB ⊢
 have HE:Hid (tagE ⟨tgt,kd,nm,tx⟩=if 1≤kd∧kd≤4 then (if (idB tgt && tagN nm && textB tx)=true then 0 else 6) else 70):=rfl
 have HW:=hideIt (fun w=>wordOf_any kd w)
 have HI:Hid (∀ w,Calls Tryz.prog 217 #[.string tgt] w fun e w'=>e=.returned (.bool (idB tgt))∧w=w'):=hideIt (fun w=>(mayBeID_any tgt w).mono fun _ _ h=>⟨h.1,h.2.symm⟩)
 have HR:=hideIt (fun w=>ref_c nm w)
 have HT:=hideIt (fun w=>mayBeText_any tx w (by unfold maxLen;omega))
 have t1:¬ 9223372036854775807 < 5 + nm.size:=by omega
 have HAB:=hideIt (new_below w (.cells #[.string tgt,.int .i64 kd,.string nm,.string tx] 172))
 obtain ⟨i,hi⟩:∃ i,idB tgt=i:=⟨_,rfl⟩
 obtain ⟨r,hr⟩:∃ r,tagN nm=r:=⟨_,rfl⟩
 obtain ⟨x,hx⟩:∃ x,textB tx=x:=⟨_,rfl⟩
 rw [hi] at HI HE
 rw [hr] at HR HE
 rw [hx] at HT HE
 clear hi hr hx h2 h3
 by_cases hk:1≤kd∧kd≤4
 ·rw [if_pos hk] at HE
  have n1:=bs_ne _ (kw_ne hk)
  obtain ⟨A,hA⟩:∃ A,bs (kw kd)=A:=⟨_,rfl⟩
  rw [hA] at HW n1
  have HW2:Hid (∀ w,Calls Tryz.prog 223 #[.int .i64 kd] w fun e w'=>e=.returned (.string A)∧w=w'):=hideIt (fun w=>(HW.out w).mono fun _ _ h=>⟨h.1,h.2.symm⟩)
  clear HW hA hk
  cases i with
  | false =>
   simp only [Bool.false_and] at HE
   go_enter Tryz.func176,Tryz.ntmps176
   go_wp2_with (first | (go_at_call 223;refine (HW2.out _).mono ?_;rintro e w1 ⟨rfl,rfl⟩) | (go_at_call 217;refine (HI.out _).mono ?_;rintro e w1 ⟨rfl,rfl⟩))
   go_ret
   exact ⟨by rw [HE.out] <;> rfl,HAB.out⟩
  | true =>
   cases r with
   | false =>
    simp only [Bool.and_false,Bool.false_and] at HE
    go_enter Tryz.func176,Tryz.ntmps176
    go_wp2_with (first | (go_at_call 223;refine (HW2.out _).mono ?_;rintro e w1 ⟨rfl,rfl⟩) | (go_at_call 217;refine (HI.out _).mono ?_;rintro e w1 ⟨rfl,rfl⟩) | (go_at_call 224;refine (HR.out _).mono ?_;rintro e w3 ⟨rfl,hb3⟩))
    go_ret
    exact ⟨by rw [HE.out] <;> rfl,below2 HAB.out hb3⟩
   | true =>
    simp only [Bool.true_and] at HE
    cases x with
    | false =>
     rw [if_neg (by decide)] at HE
     go_enter Tryz.func176,Tryz.ntmps176
     go_wp2_with (first | (go_at_call 223;refine (HW2.out _).mono ?_;rintro e w1 ⟨rfl,rfl⟩) | (go_at_call 217;refine (HI.out _).mono ?_;rintro e w1 ⟨rfl,rfl⟩) | (go_at_call 224;refine (HR.out _).mono ?_;rintro e w3 ⟨rfl,hb3⟩;have c3:=(HNB.out.below hb3).c3) | (go_at_call 222;refine (HT.out _).mono ?_;rintro e w4 ⟨rfl,hb4⟩))
     go_ret
     exact ⟨by rw [HE.out] <;> rfl,below2 (below2 HAB.out hb3) hb4⟩
    | true =>
     rw [if_pos rfl] at HE
     go_enter Tryz.func176,Tryz.ntmps176
     go_wp2_with (first | (go_at_call 223;refine (HW2.out _).mono ?_;rintro e w1 ⟨rfl,rfl⟩) | (go_at_call 217;refine (HI.out _).mono ?_;rintro e w1 ⟨rfl,rfl⟩) | (go_at_call 224;refine (HR.out _).mono ?_;rintro e w3 ⟨rfl,hb3⟩;have c3:=(HNB.out.below hb3).c3) | (go_at_call 222;refine (HT.out _).mono ?_;rintro e w4 ⟨rfl,hb4⟩))
     go_ret
     exact ⟨by rw [HE.out] <;> rfl,below2 (below2 HAB.out hb3) hb4⟩
 ·rw [if_neg hk] at HE
  have hz:kw kd=[]:=kw_none (by omega)
  rw [hz] at HW
  have HW2:Hid (∀ w,Calls Tryz.prog 223 #[.int .i64 kd] w fun e w'=>e=.returned (.string ⟨#[]⟩)∧w=w'):=hideIt (fun w=>(HW.out w).mono fun _ _ h=>⟨h.1,h.2.symm⟩)
  clear HW hz
  go_enter Tryz.func176,Tryz.ntmps176
  go_wp2_with (first | (go_at_call 223;refine (HW2.out _).mono ?_;rintro e w1 ⟨rfl,rfl⟩))
  go_ret
  exact ⟨by rw [HE.out] <;> rfl,HAB.out⟩
end Ob
end Go.Proofs.YtogjlepdejonpaaGreatDoor
namespace Go.Proofs.YtogjlepdejonpaaGreatDoor
namespace Ob
open Go.RowKit Go.Shelf
def gTt (L:List UInt8):Tg:=⟨unhB (tkT objectW L),kn (tkT kindW (tkR L)),bs (tkT nameW (tkR (tkR L))),bs (txT (tkR (tkR (tkR L))))⟩
def knO (L:List UInt8):Bool:=!decide (kn L=0)
def gTo (L:List UInt8):Bool:=tkO objectW L && idO (tkT objectW L) && (tkO kindW (tkR L) && knO (tkT kindW (tkR L))) && tkO nameW (tkR (tkR L)) && txO (tkR (tkR (tkR L)))
def gT (L:List UInt8):Tg × Int:=if gTo L=true then (if tagE (gTt L)=0 then (gTt L,0) else (tgZ,tagE (gTt L))) else (tgZ,6)
theorem TBox.grown {w w':World} {N M:Nat} {T:TypeId} {t:Tg} (h:TBox w N T t) (hg:w.grownBy w' (some M)) (hne:N≠M):TBox w' N T t:=⟨(hg.block N h.lt (by simpa using hne)).trans h.blk⟩
theorem TBox.f0 {w:World} {N:Nat} {T:TypeId} {t:Tg} (h:TBox w N T t):w.frozen? ⟨N,0,none⟩=false:=Lib.frozen_of_heap h.blk 0
theorem TBox.f1 {w:World} {N:Nat} {T:TypeId} {t:Tg} (h:TBox w N T t):w.frozen? ⟨N,1,none⟩=false:=Lib.frozen_of_heap h.blk 1
theorem TBox.f2 {w:World} {N:Nat} {T:TypeId} {t:Tg} (h:TBox w N T t):w.frozen? ⟨N,2,none⟩=false:=Lib.frozen_of_heap h.blk 2
theorem TBox.f3 {w:World} {N:Nat} {T:TypeId} {t:Tg} (h:TBox w N T t):w.frozen? ⟨N,3,none⟩=false:=Lib.frozen_of_heap h.blk 3
theorem TBox.set1 {w:World} {N:Nat} {T:TypeId} {t:Tg} (h:TBox w N T t) (k:Int):TBox (w.setCell ⟨N,1,none⟩ (.int .i64 k)) N T { t with kd:=k }:=⟨by simp [World.setCell,h.blk,Array.getElem?_modify]⟩
theorem TBox.set2 {w:World} {N:Nat} {T:TypeId} {t:Tg} (h:TBox w N T t) (s:ByteArray):TBox (w.setCell ⟨N,2,none⟩ (.string s)) N T { t with nm:=s }:=⟨by simp [World.setCell,h.blk,Array.getElem?_modify]⟩
theorem TBox.set3 {w:World} {N:Nat} {T:TypeId} {t:Tg} (h:TBox w N T t) (s:ByteArray):TBox (w.setCell ⟨N,3,none⟩ (.string s)) N T { t with tx:=s }:=⟨by simp [World.setCell,h.blk,Array.getElem?_modify]⟩
structure GS (w0:World) (M:Nat) (rest:List UInt8) (bd:Bool) (t:Tg) (w:World):Prop where
 rd:Rdr w (w0.heap.size + 1) (bs rest) bd
 res:TBox w w0.heap.size 172 tgZ
 tb:TBox w M 172 t
 far:w0.heap.size + 2≤M
 bel:Below w0.heap.size w0 w
theorem GS.below {w0 w w':World} {M:Nat} {rest:List UInt8} {bd:Bool} {t:Tg} (h:GS w0 M rest bd t w) (hb:Below w.heap.size w w'):GS w0 M rest bd t w' :=
 ⟨h.rd.below hb,h.res.below hb,h.tb.below hb,h.far,below2 h.bel hb⟩
theorem GS.take {w0 w w':World} {M:Nat} {rest rest':List UInt8} {bd bd':Bool} {t:Tg} (h:GS w0 M rest bd t w) (hr:Rdr w' (w0.heap.size + 1) (bs rest') bd') (hg:w.grownBy w' (some (w0.heap.size + 1))):GS w0 M rest' bd' t w' :=
 ⟨hr,h.res.grown hg (by omega),h.tb.grown hg (by have:=h.far;omega),h.far,h.bel.grown hg (h.bel.size) (fun k hk=>by simp at hk;omega)⟩
theorem GS.put {w0 w w':World} {M:Nat} {rest:List UInt8} {bd:Bool} {t t':Tg} (h:GS w0 M rest bd t w) (hg:w.grownBy w' (some M)) (ht:TBox w' M 172 t'):GS w0 M rest bd t' w' :=
 ⟨h.rd.grown hg (by have:=h.far;omega),h.res.grown hg (by have:=h.far;omega),ht,h.far,h.bel.grown hg (h.bel.size) (fun k hk=>by have:=h.far;simp at hk;omega)⟩
theorem GS.set1 {w0 w:World} {M:Nat} {rest:List UInt8} {bd:Bool} {t:Tg} (h:GS w0 M rest bd t w) (k:Int):GS w0 M rest bd { t with kd:=k } (w.setCell ⟨M,1,none⟩ (.int .i64 k)):=h.put (grown_set _ _ _ _) (h.tb.set1 k)
theorem GS.set2 {w0 w:World} {M:Nat} {rest:List UInt8} {bd:Bool} {t:Tg} (h:GS w0 M rest bd t w) (s:ByteArray):GS w0 M rest bd { t with nm:=s } (w.setCell ⟨M,2,none⟩ (.string s)):=h.put (grown_set _ _ _ _) (h.tb.set2 s)
theorem GS.set3 {w0 w:World} {M:Nat} {rest:List UInt8} {bd:Bool} {t:Tg} (h:GS w0 M rest bd t w) (s:ByteArray):GS w0 M rest bd { t with tx:=s } (w.setCell ⟨M,3,none⟩ (.string s)):=h.put (grown_set _ _ _ _) (h.tb.set3 s)
theorem GS.start {w0 W0 w1:World} {rest:List UInt8} {bd:Bool} (hb:Below w0.heap.size w0 W0) (hz:TBox W0 w0.heap.size 172 tgZ) (hs:w0.heap.size + 2≤W0.heap.size) (hr:Rdr w1 (w0.heap.size + 1) (bs rest) bd) (hg:W0.grownBy w1 (some (w0.heap.size + 1))) (s:ByteArray) :
  GS w0 w1.heap.size rest bd ⟨s,0,⟨#[]⟩,⟨#[]⟩⟩ (w1.alloc (.cells #[.string s,.int .i64 0,.string ⟨#[]⟩,.string ⟨#[]⟩] 172)):=by
 have h1:Below w0.heap.size w0 w1:=hb.grown hg hb.size (fun k hk=>by simp at hk;omega)
 have hz1:TBox w1 w0.heap.size 172 tgZ:=hz.grown hg (by omega)
 have hn:=new_below w1 (.cells #[.string s,.int .i64 0,.string ⟨#[]⟩,.string ⟨#[]⟩] 172)
 exact ⟨hr.below hn,hz1.below hn,⟨Cb.alloc_at rfl⟩,Nat.le_trans hs hg.size,below2 h1 hn⟩
theorem kn_tuple (L:List UInt8) (w:World):Calls Tryz.prog 130 #[.string (bs L)] w fun e w'=>e=.returned (.int .i64 (kn L))∧w=w':=(kindOf_any L w).mono fun _ _ h=>⟨h.1,h.2.symm⟩
theorem put4 {w w1:World} (h:Below w.heap.size w w1) (a b c d:Value):Below w.heap.size w ((((w1.setCell ⟨w.heap.size,0,none⟩ a).setCell ⟨w.heap.size,1,none⟩ b).setCell ⟨w.heap.size,2,none⟩ c).setCell ⟨w.heap.size,3,none⟩ d) :=
 (((h.setCell (p:=⟨w.heap.size,0,none⟩) (Nat.le_refl _) _).setCell (p:=⟨w.heap.size,1,none⟩) (Nat.le_refl _) _).setCell (p:=⟨w.heap.size,2,none⟩) (Nat.le_refl _) _).setCell (p:=⟨w.heap.size,3,none⟩) (Nat.le_refl _) _
theorem GS.flag {w0 w:World} {M:Nat} {rest:List UInt8} {bd c:Bool} {t:Tg} (h:GS w0 M rest bd t w) (e:bd=c):∃ y,y=c∧GS w0 M rest y t w:=⟨bd,e,h⟩
theorem flag_eq (L:List UInt8):(((false || !(tkO objectW L && idO (tkT objectW L))) || !(tkO kindW (tkR L) && knO (tkT kindW (tkR L)))) || !tkO nameW (tkR (tkR L)) || !txO (tkR (tkR (tkR L))))=!gTo L:=by
 unfold gTo
 cases tkO objectW L <;> cases idO (tkT objectW L) <;> cases tkO kindW (tkR L) <;> cases knO (tkT kindW (tkR L)) <;> cases tkO nameW (tkR (tkR L)) <;> cases txO (tkR (tkR (tkR L))) <;> rfl
set_option maxHeartbeats 1600000 in
set_option maxRecDepth 100000 in
theorem takeKind_any (N:Nat) (wd L:List UInt8) (bd:Bool) (w:World) (hR:Rdr w N (bs L) bd) (hL:L.length≤1000000) (hw:wd.length≤1000) (hm:MaxAt w) :
  Calls Tryz.prog 175 #[.pointer (some ⟨N,0,none⟩),.string (bs wd)] w fun e w'=>e=.returned (.int .i64 (kn (tkT wd L)))∧Rdr w' N (bs (tkR L)) (bd || !(tkO wd L && knO (tkT wd L)))∧w.grownBy w' (some N):=by
 have HT:=hideIt (take_any N wd L bd w hR hL hw hm)
 have HK:=hideIt (fun w=>kn_tuple (tkT wd L) w)
 have hd:knO (tkT wd L)=!decide (kn (tkT wd L)=0):=rfl
 rw [hd]
 obtain ⟨T,hT⟩:∃ T,bs (tkT wd L)=T:=⟨_,rfl⟩
 obtain ⟨k,hk⟩:∃ k,kn (tkT wd L)=k:=⟨_,rfl⟩
 obtain ⟨o,ho⟩:∃ o,tkO wd L=o:=⟨_,rfl⟩
 obtain ⟨R,hRr⟩:∃ R,bs (tkR L)=R:=⟨_,rfl⟩
 rw [hT,ho,hRr] at HT
 rw [hT,hk] at HK
 rw [hk,ho,hRr]
 obtain ⟨i,hi⟩:∃ i,decide (k=0)=i:=⟨_,rfl⟩
 rw [hi]
 have h1:(k == 0)=i:=by rw [← hi];by_cases h:k=0 <;> simp [h]
 have HX:(bd || !(o && !i))=((bd || !o) || i):=by cases bd <;> cases o <;> cases i <;> rfl
 obtain ⟨x,hx⟩:∃ x,(bd || !o)=x:=⟨_,rfl⟩
 rw [hx] at HX HT
 rw [HX]
 clear hT hk ho hRr hR hx HX hm hd hi
 cases x with
 | true =>
  have HX2:Hid (∀ j,(true || j)=true):=hideIt (fun _=>rfl)
  rw [HX2.out]
  go_enter Tryz.func175,Tryz.ntmps175
  go_wp2_with (first | (go_at_call 171;refine HT.out.mono ?_;rintro e w1 ⟨rfl,hr1,hg1⟩;have HR1:=hideIt hr1;have c1:=hr1.c1;have f1:=hr1.f1) | (go_at_call 130;refine (HK.out _).mono ?_;rintro e w2 ⟨rfl,rfl⟩))
  all_goals go_ret
  all_goals exact ⟨rfl,HR1.out.set1 _,hg1.trans (grown_set _ _ _ _)⟩
 | false =>
  have HX2:Hid (∀ j,(false || j)=j):=hideIt (fun _=>rfl)
  rw [HX2.out]
  cases i with
  | true =>
   go_enter Tryz.func175,Tryz.ntmps175
   go_wp2_with (first | (go_at_call 171;refine HT.out.mono ?_;rintro e w1 ⟨rfl,hr1,hg1⟩;have HR1:=hideIt hr1;have c1:=hr1.c1;have f1:=hr1.f1) | (go_at_call 130;refine (HK.out _).mono ?_;rintro e w2 ⟨rfl,rfl⟩))
   all_goals go_ret
   all_goals exact ⟨rfl,Rdr.cast (HR1.out.set1 _) (by simp_all),hg1.trans (grown_set _ _ _ _)⟩
  | false =>
   go_enter Tryz.func175,Tryz.ntmps175
   go_wp2_with (first | (go_at_call 171;refine HT.out.mono ?_;rintro e w1 ⟨rfl,hr1,hg1⟩;have HR1:=hideIt hr1;have c1:=hr1.c1;have f1:=hr1.f1) | (go_at_call 130;refine (HK.out _).mono ?_;rintro e w2 ⟨rfl,rfl⟩))
   all_goals go_ret
   all_goals exact ⟨rfl,Rdr.cast (HR1.out.set1 _) (by simp_all),hg1.trans (grown_set _ _ _ _)⟩
set_option maxHeartbeats 1600000 in
set_option maxRecDepth 100000 in
theorem getTag_any (L:List UInt8) (w:World) (hL:L.length≤1000000) (hm:MaxAt w) :
  Calls Tryz.prog 135 #[.string (bs L)] w fun e w'=>e=.returned (.tuple #[tgV (gT L).1,.int .i64 (gT L).2])∧Below w.heap.size w w':=by
 have HM:=hideIt hm
 obtain ⟨W0,hW0⟩:∃ W0,(w.alloc (.cells #[.string ⟨#[]⟩,.int .i64 0,.string ⟨#[]⟩,.string ⟨#[]⟩] 172)).alloc (.cells #[.string (bs L),.bool false] 204)=W0:=⟨_,rfl⟩
 obtain ⟨N,hN⟩:∃ N,w.heap.size=N:=⟨_,rfl⟩
 have hb0:Below N w W0:=by rw [← hW0,← hN];exact ((Below.refl _ _).alloc (Nat.le_refl _) _).alloc (by simp) _
 have hr0:Rdr W0 (N + 1) (bs L) false:=⟨by rw [← hW0];exact Cb.alloc_at (by simp [hN])⟩
 have hz0:TBox W0 N 172 tgZ:=⟨by rw [← hW0,← hN,Below.heap_alloc _ _ _ (by simp)];exact Cb.alloc_at rfl⟩
 have hs0:N + 2≤W0.heap.size:=by rw [← hW0,← hN];simp
 have HI:=hideIt (takeID_any (N + 1) objectW L false W0 hr0 hL (by decide) (hm.below (hN ▸ hb0)))
 have hL1:(tkR L).length≤1000000:=Nat.le_trans (tkR_len L) hL
 have hL2:(tkR (tkR L)).length≤1000000:=Nat.le_trans (tkR_len _) hL1
 have hL3:(tkR (tkR (tkR L))).length≤1000000:=Nat.le_trans (tkR_len _) hL2
 subst hN
 have HST:=hideIt (fun (w1:World) (bd:Bool) (hr:Rdr w1 (w.heap.size + 1) (bs (tkR L)) bd) hg=>GS.start hb0 hz0 hs0 hr hg (unhB (tkT objectW L)))
 rw [← hW0] at HI HST
 have HK:=hideIt (fun (w1:World) (M:Nat) (bd:Bool) (t:Tg) (g:GS w M (tkR L) bd t w1)=>takeKind_any (w.heap.size + 1) kindW (tkR L) bd w1 g.rd hL1 (by decide) (hm.below g.bel))
 have HA:=hideIt (fun (w1:World) (M:Nat) (bd:Bool) (t:Tg) (g:GS w M (tkR (tkR L)) bd t w1)=>take_any (w.heap.size + 1) nameW (tkR (tkR L)) bd w1 g.rd hL2 (by decide) (hm.below g.bel))
 have HX:=hideIt (fun (w1:World) (M:Nat) (bd:Bool) (t:Tg) (g:GS w M (tkR (tkR (tkR L))) bd t w1)=>takeText_any (w.heap.size + 1) (tkR (tkR (tkR L))) bd w1 g.rd)
 have HC1:=hideIt (fun w=>clone_c (tkT nameW (tkR (tkR L))) w (Nat.le_trans (tkT_len _ _) hL2))
 have HC2:=hideIt (fun w=>clone_c (txT (tkR (tkR (tkR L)))) w (Nat.le_trans (txT_len _) hL3))
 have HCT:=hideIt (fun w=>checkTag_any (gTt L) w (by show (bs (tkT nameW (tkR (tkR L)))).size≤_;rw [bs_size];exact Nat.le_trans (tkT_len _ _) hL2) (by show (bs (txT (tkR (tkR (tkR L))))).size≤_;rw [bs_size];exact Nat.le_trans (txT_len _) hL3))
 have HGT:Hid (gT L=if gTo L=true then (if tagE (gTt L)=0 then (gTt L,0) else (tgZ,tagE (gTt L))) else (tgZ,6)):=rfl
 obtain ⟨z,hz⟩:∃ z,tagE (gTt L)=z:=⟨_,rfl⟩
 rw [hz] at HCT HGT
 unfold tgV at HCT
 clear hW0 hb0 hr0 hz0 hm hs0 hz
 go_enter Tryz.func135,Tryz.ntmps135
 go_wp2_with (first
  | (go_at_call 169;refine HI.out.mono ?_;rintro e w1 ⟨rfl,hr1,hg1⟩;have G1:=hideIt (HST.out _ _ hr1 hg1);clear hr1 hg1)
  | (go_at_call 175;refine (HK.out _ _ _ _ G1.out).mono ?_;rintro e w2 ⟨rfl,hr2,hg2⟩;have G2:=hideIt (G1.out.take hr2 hg2);have c21:=G2.out.tb.c1;have f21:=G2.out.tb.f1;clear hr2 hg2)
  | (go_at_call 171;refine (HA.out _ _ _ _ (G2.out.set1 _)).mono ?_;rintro e w4 ⟨rfl,hr4,hg4⟩;have G4:=hideIt ((G2.out.set1 _).take hr4 hg4);clear hr4 hg4)
  | (go_at_call 46;refine (HC2.out _).mono ?_;rintro e w7 ⟨rfl,hb7⟩;obtain ⟨y,hy,g7⟩:=(G6.out.below hb7).flag (flag_eq L);have G7:=hideIt g7;have HY:=hideIt hy;have c70:=G7.out.tb.c0;have c71:=G7.out.tb.c1;have c72:=G7.out.tb.c2;have c73:=G7.out.tb.c3;have f73:=G7.out.tb.f3;have cr:=G7.out.rd.c1;have e0:=G7.out.res.c0;have e1:=G7.out.res.c1;have e2:=G7.out.res.c2;have e3:=G7.out.res.c3;have g0:=G7.out.res.f0;have g1:=G7.out.res.f1;have g2:=G7.out.res.f2;have g3:=G7.out.res.f3;have hn1:¬ w1.heap.size=w.heap.size:=(by have:=G7.out.far;omega);have hn2:¬ w.heap.size=w1.heap.size:=(by have:=G7.out.far;omega);clear g7 hy)
  | (go_at_call 46;refine (HC1.out _).mono ?_;rintro e w5 ⟨rfl,hb5⟩;have G5:=hideIt (G4.out.below hb5);have c52:=G5.out.tb.c2;have f52:=G5.out.tb.f2)
  | (go_at_call 173;refine (HX.out _ _ _ _ (G5.out.set2 _)).mono ?_;rintro e w6 ⟨rfl,hr6,hg6⟩;have G6:=hideIt ((G5.out.set2 _).take (rest':=[]) hr6 hg6);clear hr6 hg6)
  | (go_at_call 176;refine (HCT.out _).mono ?_;rintro e w9 ⟨rfl,hb9⟩;have G9:=hideIt ((G7.out.set3 _).below hb9);have d0:=G9.out.tb.c0;have d1:=G9.out.tb.c1;have d2:=G9.out.tb.c2;have d3:=G9.out.tb.c3;have e0:=G9.out.res.c0;have e1:=G9.out.res.c1;have e2:=G9.out.res.c2;have e3:=G9.out.res.c3;have g0:=G9.out.res.f0;have g1:=G9.out.res.f1;have g2:=G9.out.res.f2;have g3:=G9.out.res.f3))
 ·have hg:gT L=(tgZ,6):=by
   rw [HGT.out,if_neg]
   have:=HY.out
   simp_all
  refine bodyPost_ret (v:=.tuple #[tgV tgZ,.int .i64 6]) ?_ rfl ⟨by rw [hg],?_⟩
  ·rw [results_c2 rfl]
   go_simp
   rfl
  ·exact put4 (G7.out.set3 _).bel _ _ _ _
 ·have hz0:¬ z=0:=by simp_all
  have hg:gT L=(tgZ,z):=by
   rw [HGT.out,if_pos,if_neg hz0]
   have:=HY.out
   simp_all
  refine bodyPost_ret (v:=.tuple #[tgV tgZ,.int .i64 z]) ?_ rfl ⟨by rw [hg],?_⟩
  ·rw [results_c2 rfl]
   go_simp
   rfl
  ·exact put4 G9.out.bel _ _ _ _
 ·have hz0:z=0:=by simp_all
  have hg:gT L=(gTt L,0):=by
   rw [HGT.out,if_pos,if_pos hz0]
   have:=HY.out
   simp_all
  refine bodyPost_ret (v:=.tuple #[tgV (gTt L),.int .i64 0]) ?_ rfl ⟨by rw [hg],?_⟩
  ·rw [results_c2 rfl]
   go_simp
   rfl
  ·exact put4 G9.out.bel _ _ _ _
end Ob
end Go.Proofs.YtogjlepdejonpaaGreatDoor
namespace Go.Proofs.YtogjlepdejonpaaGreatDoor
open Go.RowKit
theorem cellAt {w : World} {g i : Nat} {cs : Array Value} {t : TypeId} {fr : Nat × Nat} {v : Value} (h : w.heap[g]? = some (.cells cs t fr)) (hv : cs[i]? = some v) : w.cell? ⟨g, i, none⟩ = some v := by
  rw [cell_of_row _ _ i _ _ _ h, hv]
def enV (x : En) : List Value := [.string x.nm, .int .i64 x.md, .string x.ids]
def enA (x : En) : Value := .agg #[.string x.nm, .int .i64 x.md, .string x.ids]
def esV (l : List En) : List Value := l.flatMap enV
set_option maxHeartbeats 800000 in
set_option maxRecDepth 100000 in
theorem wordOf_any (m : Int) (w : World) : Calls Tryz.prog 264 #[.int .i64 m] w fun e w' => e = .returned (.string (bs (word m))) ∧ w' = w := by
  by_cases h1 : m = 1
  · subst h1
    go_enter Tryz.func264, Tryz.ntmps264
    go_wp2
    go_ret
    exact ⟨rfl, rfl⟩
  · by_cases h2 : m = 2
    · subst h2
      go_enter Tryz.func264, Tryz.ntmps264
      go_wp2
      go_ret
      exact ⟨rfl, rfl⟩
    · by_cases h3 : m = 3
      · subst h3
        go_enter Tryz.func264, Tryz.ntmps264
        go_wp2
        go_ret
        exact ⟨rfl, rfl⟩
      · have q1 : (m == 1) = false := by simpa using h1
        have q2 : (m == 2) = false := by simpa using h2
        have q3 : (m == 3) = false := by simpa using h3
        have e : bs (word m) = ⟨#[]⟩ := by unfold word; rw [if_neg h1, if_neg h2, if_neg h3]; rfl
        rw [e]
        go_enter Tryz.func264, Tryz.ntmps264
        go_wp2
        go_ret
        exact ⟨rfl, rfl⟩
set_option maxHeartbeats 800000 in
set_option maxRecDepth 100000 in
theorem modeOf_any (s : ByteArray) (w : World) : Calls Tryz.prog 215 #[.string s] w fun e w' => e = .returned (.int .i64 (modeL s.data.toList)) ∧ w' = w := by
  have HM : Hid (modeL s.data.toList = if s.data.toList = [102, 105, 108, 101] then 1 else if s.data.toList = [114, 117, 110] then 2 else if s.data.toList = [116, 114, 101, 101] then 3 else 0) := rfl
  obtain ⟨a, ha⟩ : ∃ a, (s.toList == [102, 105, 108, 101]) = a := ⟨_, rfl⟩
  obtain ⟨b, hb⟩ : ∃ b, (s.toList == [114, 117, 110]) = b := ⟨_, rfl⟩
  obtain ⟨c, hc⟩ : ∃ c, (s.toList == [116, 114, 101, 101]) = c := ⟨_, rfl⟩
  have HA := hideIt ha
  have HB := hideIt hb
  have HC := hideIt hc
  rw [ByteArray.toList_eq] at HA HB HC
  cases a <;> cases b <;> cases c
  all_goals go_enter Tryz.func215, Tryz.ntmps215
  all_goals go_wp2
  all_goals go_ret
  all_goals refine ⟨?_, rfl⟩
  all_goals rw [HM.out]
  all_goals (have h1 := HA.out; have h2 := HB.out; have h3 := HC.out; simp only [beq_iff_eq, beq_eq_false_iff_ne, ne_eq] at h1 h2 h3; simp [h1, h2, h3])
set_option maxHeartbeats 1600000 in
set_option maxRecDepth 100000 in
theorem checkEntry_any (x : En) (w : World) : Calls Tryz.prog 216 #[enA x] w fun e w' => e = .returned (.int .i64 (chk1 x)) ∧ Below w.heap.size w w' := by
  obtain ⟨nm, md, ids⟩ := x
  obtain ⟨W, hW⟩ : ∃ W, w.alloc (.cells #[.string nm, .int .i64 md, .string ids] 167) = W := ⟨_, rfl⟩
  have hbW : Below w.heap.size w W := by rw [← hW]; exact (Below.refl _ _).alloc (Nat.le_refl _) _
  have hbox : W.heap[w.heap.size]? = some (.cells #[.string nm, .int .i64 md, .string ids] 167 (0, 0)) := by rw [← hW]; exact alloc_at rfl
  have hlt : w.heap.size < W.heap.size := by rw [← hW]; simp
  have c0 : W.cell? ⟨w.heap.size, 0, none⟩ = some (.string nm) := cellAt hbox rfl
  have c1 : W.cell? ⟨w.heap.size, 1, none⟩ = some (.int .i64 md) := cellAt hbox rfl
  have c2 : W.cell? ⟨w.heap.size, 2, none⟩ = some (.string ids) := cellAt hbox rfl
  have HK := hideIt (name_any nm W)
  have HM := hideIt (wordOf_any md)
  have HBW := hideIt hbW
  have HC : Hid (chk1 ⟨nm, md, ids⟩ = if Lb.nameB nm = false then 50 else if ¬ (1 ≤ md ∧ md ≤ 3) then 60 else if ids.size ≠ 32 then 6 else 0) := rfl
  have HC1 := hideIt c1
  have HC2 := hideIt c2
  have HW := hideIt (word_mode md)
  obtain ⟨nb, hnb⟩ : ∃ nb, Lb.nameB nm = nb := ⟨_, rfl⟩
  obtain ⟨wd, hwd⟩ : ∃ wd, word md = wd := ⟨_, rfl⟩
  have q1 : ((bs wd).toList == []) = decide (wd = []) := by rw [ByteArray.toList_eq, bs_list]; cases wd <;> rfl
  have q2 : (bs wd).toList.isEmpty = decide (wd = []) := by rw [ByteArray.toList_eq, bs_list]; cases wd <;> rfl
  rw [hnb] at HC HK
  rw [hwd] at HM HW
  obtain ⟨we, hwe⟩ : ∃ we, decide (wd = []) = we := ⟨_, rfl⟩
  rw [hwe] at q1 q2
  have HWE := hideIt hwe
  obtain ⟨k, hk⟩ : ∃ k : Int, (ids.size : Int) = k := ⟨_, rfl⟩
  obtain ⟨ke, hke⟩ : ∃ ke, (k == 32) = ke := ⟨_, rfl⟩
  have HKK := hideIt hk
  have HKE := hideIt hke
  clear hwe hnb hwd c1 c2 hbW hbox
  show Calls Tryz.prog 216 #[.agg #[.string nm, .int .i64 md, .string ids]] w fun e w' => e = .returned (.int .i64 (chk1 ⟨nm, md, ids⟩)) ∧ Below w.heap.size w w'
  cases nb <;> cases we <;> cases ke
  all_goals go_enter Tryz.func216, Tryz.ntmps216
  all_goals go_wp2_with (first | (go_at_call 263; refine HK.out.mono ?_; rintro e w1 ⟨rfl, hb1⟩; have d1 : w1.cell? ⟨w.heap.size, 1, none⟩ = some (.int .i64 md) := by rw [hb1.cell (p := ⟨w.heap.size, 1, none⟩) hlt]; exact HC1.out
                                  have d2 : w1.cell? ⟨w.heap.size, 2, none⟩ = some (.string ids) := by rw [hb1.cell (p := ⟨w.heap.size, 2, none⟩) hlt]; exact HC2.out) | (go_at_call 264; refine (HM.out _).mono ?_; rintro e w2 ⟨rfl, hw2⟩; obtain rfl := hw2.symm))
  all_goals go_ret
  all_goals refine ⟨?_, below2 HBW.out (by assumption)⟩
  all_goals rw [HC.out]
  all_goals (have h1 := HWE.out; have h2 := HKE.out; have h3 := HW.out; have h4 := HKK.out; simp only [decide_eq_true_eq, decide_eq_false_iff_not, beq_iff_eq, beq_eq_false_iff_ne, ne_eq] at h1 h2; simp only [h1, true_iff, false_iff] at h3)
  all_goals simp
  all_goals (try omega)
end Go.Proofs.YtogjlepdejonpaaGreatDoor
namespace Go.Proofs.YtogjlepdejonpaaGreatDoor
open Go.RowKit
def ECells (w:World) (b o:Nat) (l:List En):Prop:=b < w.heap.size∧∀ (i:Nat) (x:En),l[i]? = some x→w.cell? ⟨b,o + i * 3,none⟩=some (.string x.nm)∧w.cell? ⟨b,o + i * 3 + 1,none⟩=some (.int .i64 x.md)∧w.cell? ⟨b,o + i * 3 + 2,none⟩=some (.string x.ids)
def ERow (w:World) (v:Value) (l:List En):Prop:=∃ a c,v=.slice a l.length c∧l.length≤c∧(c≤maxLen∧(a=none→c=0))∧(0 < l.length→∃ b o,a=some ⟨b,o,none⟩∧ECells w b o l)
theorem ECells.below {w w':World} {b o:Nat} {l:List En} (h:ECells w b o l) (hb:Below w.heap.size w w'):ECells w' b o l :=
 ⟨Nat.lt_of_lt_of_le h.1 hb.size,fun i x hx=>by
  obtain ⟨h1,h2,h3⟩:=h.2 i x hx
  exact ⟨by rw [hb.cell (p:=⟨b,o + i * 3,none⟩) h.1];exact h1,by rw [hb.cell (p:=⟨b,o + i * 3 + 1,none⟩) h.1];exact h2,by rw [hb.cell (p:=⟨b,o + i * 3 + 2,none⟩) h.1];exact h3⟩⟩
theorem ERow.below {w w':World} {v:Value} {l:List En} (h:ERow w v l) (hb:Below w.heap.size w w'):ERow w' v l:=by
 obtain ⟨a,c,h1,h2,h3,h4⟩:=h
 refine ⟨a,c,h1,h2,h3,fun h0=>?_⟩
 obtain ⟨b,o,e,hc⟩:=h4 h0
 exact ⟨b,o,e,hc.below hb⟩
theorem below_drewN (w:World) (n:Nat):Below w.heap.size w (w.drewN n):=⟨rfl,rfl,rfl,Nat.le_refl _,fun _ _=>rfl⟩
theorem stuck_at {l:List En} {i j:Nat} {x y:En} {ls:Bool} (hj:i=j + 1) (hy:l[j]? = some y) (h:Op.bytesLess y.nm.toList x.nm.toList=ls):stuck (before l i) x=!ls:=by
 subst hj
 simp [before,hy,stuck,less,h]
theorem three_cells {w:World} {b:Nat} {x:En} {t:TypeId} {fr:Nat × Nat} (h:w.heap[b]? = some (.cells #[.string x.nm,.int .i64 x.md,.string x.ids] t fr)):w.cell? ⟨b,0,none⟩=some (.string x.nm)∧w.cell? ⟨b,1,none⟩=some (.int .i64 x.md)∧w.cell? ⟨b,2,none⟩=some (.string x.ids):=⟨cellAt h rfl,cellAt h rfl,cellAt h rfl⟩
set_option maxHeartbeats 1600000 in
set_option maxRecDepth 100000 in
theorem check_any (v:Value) (l:List En) (w:World) (h:ERow w v l):Calls Tryz.prog 168 #[v] w fun e w'=>e=.returned (.int .i64 (chk l))∧Below w.heap.size w w':=by
 obtain ⟨a,c,rfl,hlc,hcm,hrow⟩:=h
 have HR:=hideIt hrow
 have HCK:Hid (chk l=if 256 < l.length then 3 else chkF none l):=rfl
 obtain ⟨n,hn⟩:∃ n,l.length=n:=⟨_,rfl⟩
 rw [hn] at HCK hlc ⊢
 have HN:=hideIt hn
 clear hrow
 by_cases hbig:256 < n
 ·have d1:decide ((256:Int) < (n:Int))=true:=decide_eq_true (by omega)
  have i1:(256:Int) < (n:Int):=by omega
  go_enter Tryz.func168,Tryz.ntmps168
  go_wp2
  go_ret
  exact ⟨by rw [HCK.out,if_pos hbig];rfl,Below.refl _ _⟩
 ·have d1:decide ((256:Int) < (n:Int))=false:=decide_eq_false (by omega)
  have i1:¬ (256:Int) < (n:Int):=by omega
  have HCF:Hid (chk l=chkF none l):=hideIt (by rw [HCK.out,if_neg hbig])
  clear HCK
  have HE:=hideIt (checkEntry_any)
  go_enter Tryz.func168,Tryz.ntmps168
  go_wp2
  go_loopw [11] (fun t wr=>∃ i:Nat,i≤n∧t=.int .i64 i∧chkF (before l i) (l.drop i)=chk l∧Below w.heap.size w wr) (fun t _=>n - (intOf t).toNat)
  case atStart=>exact ⟨0,by omega,rfl,by rw [HCF.out];rfl,Below.refl _ _⟩
  case round =>
   obtain ⟨i,hi,rfl,hck,hb⟩:=hrel
   by_cases hlt:i < n
   ·have hid:decide ((i:Int) < (n:Int))=true:=decide_eq_true (by omega)
    have i2:(i:Int) < (n:Int):=by omega
    obtain ⟨b,o,rfl,hcells⟩:=HR.out (by rw [HN.out];omega)
    obtain ⟨x,hxi⟩:∃ x,l[i]? = some x:=⟨l[i]'(by rw [HN.out];exact hlt),by simp⟩
    have hcr:=hcells.below hb
    obtain ⟨c0,c1,c2⟩:=hcr.2 i x hxi
    have HB:=hideIt hb
    have HCE:=hideIt hcr
    have HST:=hideIt (chk_step l i x hxi)
    clear hcells hcr hb
    have HCK2:=hideIt hck
    clear hck
    obtain ⟨W,hW⟩:∃ W,wr.alloc (.cells #[.string x.nm,.int .i64 x.md,.string x.ids] 167)=W:=⟨_,rfl⟩
    have hbox:W.heap[wr.heap.size]? = some (.cells #[.string x.nm,.int .i64 x.md,.string x.ids] 167 (0,0)):=by rw [← hW];exact alloc_at rfl
    have hbW:Below wr.heap.size wr W:=by rw [← hW];exact (Below.refl _ _).alloc (Nat.le_refl _) _
    have hlW:wr.heap.size < W.heap.size:=by rw [← hW];simp
    obtain ⟨k0,k1,k2⟩:=three_cells hbox
    have HK0:=hideIt k0
    have HBW:=hideIt hbW
    have hE:Hid (∀ w,Calls Tryz.prog 216 #[.agg #[.string x.nm,.int .i64 x.md,.string x.ids]] w fun e w'=>e=.returned (.int .i64 (chk1 x))∧Below w.heap.size w w'):=hideIt (HE.out x)
    have HQ:Hid (∀ w1,Below W.heap.size W w1→Below w.heap.size w w1):=hideIt (fun w1 h1=>below2 HB.out (below2 HBW.out h1))
    clear hbW hbox
    obtain ⟨z,hz⟩:∃ z,chk1 x=z:=⟨_,rfl⟩
    rw [hz] at hE HST
    by_cases hz0:z=0
    ·subst hz0
     by_cases h0:i=0
     ·have n0:¬ (0:Int) < (i:Int):=by omega
      have n1:decide ((0:Int) < (i:Int))=false:=decide_eq_false n0
      have n2:¬ 0 < i:=by omega
      have HST2:Hid (chkF (before l (i + 1)) (l.drop (i + 1))=chk l):=hideIt (by
       rw [← HCK2.out,HST.out,if_neg (by simp),if_neg]
       subst h0
       simp [stuck,before])
      clear h0
      go_wp2_with (first | (go_at_call 216;refine (hE.out _).mono ?_;rintro e w1 ⟨rfl,hb1⟩;have e0:w1.cell? ⟨wr.heap.size,0,none⟩=some (.string x.nm):=by rw [hb1.cell (p:=⟨wr.heap.size,0,none⟩) hlW];exact HK0.out))
      go_quiet (fail)
      go_wp2
      go_roundw
      case rel=>exact ⟨i + 1,by omega,by go_num,HST2.out,below2 (HQ.out _ hb1) (below_drewN _ _)⟩
      case measure=>simp [intOf];omega
     ·obtain ⟨j,hj⟩:∃ j,i=j + 1:=⟨i - 1,by omega⟩
      have n0:(0:Int) < (i:Int):=by omega
      have n1:decide ((0:Int) < (i:Int))=true:=decide_eq_true n0
      have n2:0 < i:=by omega
      have j1:(i:Int) - 1=(j:Int):=by omega
      have j2:(j:Int) < (n:Int):=by omega
      have j3:j < n:=by omega
      obtain ⟨y,hyj⟩:∃ y,l[j]? = some y:=⟨l[j]'(by rw [HN.out];exact j3),by simp⟩
      obtain ⟨ls,hls⟩:∃ ls,Op.bytesLess y.nm.toList x.nm.toList=ls:=⟨_,rfl⟩
      have HST2:Hid ((if ls=false then 61 else chkF (before l (i + 1)) (l.drop (i + 1)))=chk l):=hideIt (by
       rw [← HCK2.out,HST.out,stuck_at hj hyj hls]
       cases ls <;> simp)
      have HY:Hid (∀ w1,Below W.heap.size W w1→w1.cell? ⟨b,o + j * 3,none⟩=some (.string y.nm)):=hideIt (fun w1 h1=>(((HCE.out.below HBW.out).below h1).2 j y hyj).1)
      clear h0 hj hyj
      cases ls with
      | false =>
       go_wp2_with (first | (go_at_call 216;refine (hE.out _).mono ?_;rintro e w1 ⟨rfl,hb1⟩;have y0:=HY.out _ hb1;have e0:w1.cell? ⟨wr.heap.size,0,none⟩=some (.string x.nm):=by rw [hb1.cell (p:=⟨wr.heap.size,0,none⟩) hlW];exact HK0.out))
       go_quiet (fail)
       go_wp2
       go_ret
       exact ⟨by rw [← HST2.out];rfl,below2 (HQ.out _ hb1) (below_drewN _ _)⟩
      | true =>
       go_wp2_with (first | (go_at_call 216;refine (hE.out _).mono ?_;rintro e w1 ⟨rfl,hb1⟩;have y0:=HY.out _ hb1;have e0:w1.cell? ⟨wr.heap.size,0,none⟩=some (.string x.nm):=by rw [hb1.cell (p:=⟨wr.heap.size,0,none⟩) hlW];exact HK0.out))
       go_quiet (fail)
       go_wp2
       go_roundw
       case rel=>exact ⟨i + 1,by omega,by go_num,HST2.out,below2 (HQ.out _ hb1) (below_drewN _ _)⟩
       case measure=>simp [intOf];omega
    ·have z1:(z == 0)=false:=by simpa using hz0
     go_wp2_with (first | (go_at_call 216;refine (hE.out _).mono ?_;rintro e w1 ⟨rfl,hb1⟩))
     go_ret
     refine ⟨?_,HQ.out _ hb1⟩
     rw [← HCK2.out,HST.out,if_pos hz0]
     rfl
   ·have hid:decide ((i:Int) < (n:Int))=false:=decide_eq_false (by omega)
    obtain rfl:i=n:=by omega
    have HB:=hideIt hb
    have HCK2:=hideIt hck
    clear hb hck
    go_wp2
    go_ret
    refine ⟨?_,HB.out⟩
    rw [← HCK2.out,← HN.out,chk_end]
    rfl
end Go.Proofs.YtogjlepdejonpaaGreatDoor
namespace Go.Proofs.YtogjlepdejonpaaGreatDoor
open Go.RowKit Go.Shelf
def MaxAt (w:World):Prop:=∃ m,w.cell? ⟨0,0,none⟩=some (.int .i64 m)
theorem MaxAt.pos {w:World} (h:MaxAt w):0 < w.heap.size:=by
 obtain ⟨m,h⟩:=h
 by_cases hz:0 < w.heap.size
 ·exact hz
 ·have:w.heap[0]? = none:=Array.getElem?_eq_none (by omega)
  simp [World.cell?,this] at h
theorem MaxAt.keep {w w':World} (h:MaxAt w) (hb:w'.heap[0]? = w.heap[0]?):MaxAt w':=by
 obtain ⟨m,h⟩:=h
 exact ⟨m,by rw [World.cell?_of_block (w:=w) hb,h]⟩
theorem MaxAt.below {w w':World} (h:MaxAt w) (hb:Below w.heap.size w w'):MaxAt w':=h.keep (hb.block _ h.pos)
theorem index_none (c:UInt8) (l:List UInt8) (h:c ∉ l):Lib.index l [c]=-1:=by
 induction l with
 | nil=>rfl
 | cons d r ih =>
  have hc:d≠c:=fun e=>h (by simp [e])
  have hr:=ih (fun e=>h (by simp [e]))
  rw [Lib.index,hr]
  have:([c]:List UInt8).isPrefixOf (d :: r)=false:=by simp [List.isPrefixOf];exact fun e=>hc e.symm
  simp [this]
theorem index_some (c:UInt8) (a r:List UInt8) (h:c ∉ a):Lib.index (a ++ c :: r) [c]=(a.length:Nat):=by
 induction a with
 | nil=>simp [Lib.index,List.isPrefixOf]
 | cons d a ih =>
  have hc:d≠c:=fun e=>h (by simp [e])
  have hr:=ih (fun e=>h (by simp [e]))
  rw [List.cons_append,Lib.index,hr]
  have:([c]:List UInt8).isPrefixOf (d :: (a ++ c :: r))=false:=by simp [List.isPrefixOf];exact fun e=>hc e.symm
  rw [this]
  have h2:((a.length:Nat):Int)≠-1:=by omega
  simp [h2]
theorem cut_none (c:UInt8) (l:List UInt8) (h:c ∉ l):Lib.cut l [c]=(l,[],false):=by
 rw [Lib.cut,index_none c l h]
 rfl
theorem cut_some (c:UInt8) (a r:List UInt8) (h:c ∉ a):Lib.cut (a ++ c :: r) [c]=(a,r,true):=by
 rw [Lib.cut,index_some c a r h,if_pos (by omega)]
 simp [List.drop_append]
theorem cut_at (c:UInt8) (l:List UInt8):c ∉ l∨∃ a r,l=a ++ c :: r∧c ∉ a:=by
 induction l with
 | nil=>exact .inl (by simp)
 | cons d l ih =>
  by_cases hc:d=c
  ·exact .inr ⟨[],l,by simp [hc],by simp⟩
  ·rcases ih with h | ⟨a,r,e,ha⟩
   ·exact .inl (by simp [h];exact fun e=>hc e.symm)
   ·exact .inr ⟨d :: a,r,by simp [e],by simp [ha];exact fun e=>hc e.symm⟩
theorem sCut_none (L:List UInt8) (c:UInt8) (hL:L.length≤1000000) (h:c ∉ L) (w:World) (hm:MaxAt w) :
  Calls Tryz.prog 129 #[.string (bs L),.string ⟨#[c]⟩] w fun e w'=>e=.returned (.tuple #[.string (bs L),.string ⟨#[]⟩,.bool false])∧Below w.heap.size w w':=by
 obtain ⟨m,hm⟩:=hm
 refine (Tryz.strings_Cut (bs L) ⟨#[c]⟩ m w (by rw [bs_size];omega) hm).mono ?_
 rintro e w' ⟨rfl,n,rfl⟩
 rw [bs_list,show (⟨#[c]⟩:ByteArray).data.toList=[c] from rfl,cut_none c L h]
 exact ⟨rfl,below_drewN _ _⟩
theorem sCut_some (a r:List UInt8) (c:UInt8) (hL:a.length + r.length < 1000000) (h:c ∉ a) (w:World) (hm:MaxAt w) :
  Calls Tryz.prog 129 #[.string (bs (a ++ c :: r)),.string ⟨#[c]⟩] w fun e w'=>e=.returned (.tuple #[.string (bs a),.string (bs r),.bool true])∧Below w.heap.size w w':=by
 obtain ⟨m,hm⟩:=hm
 refine (Tryz.strings_Cut (bs (a ++ c :: r)) ⟨#[c]⟩ m w (by rw [bs_size];simp;omega) hm).mono ?_
 rintro e w' ⟨rfl,n,rfl⟩
 rw [bs_list,show (⟨#[c]⟩:ByteArray).data.toList=[c] from rfl,cut_some c a r h]
 exact ⟨rfl,below_drewN _ _⟩
theorem clone_any (s:ByteArray) (w:World) (hs:s.size≤281474976710656):Calls Tryz.prog 46 #[.string s] w fun e w'=>e=.returned (.string s)∧Below w.heap.size w w':=by
 have H:=hideIt (fun w=>Tryz.stringslite_Clone s w hs)
 go_enter Tryz.func46,Tryz.ntmps46
 go_wp2_with (first | (go_at_call 94;refine (H.out _).mono ?_;rintro e w1 ⟨rfl,hb⟩))
 go_ret
 exact ⟨rfl,hb⟩
theorem word_no32:∀ m:Int,(32:UInt8) ∉ word m:=by
 intro m
 unfold word
 repeat' split
 all_goals decide
theorem heads_none (h:List UInt8) (hn:32 ∉ h):heads h=none:=by
 cases hh:heads h with
 | none=>rfl
 | some p =>
  obtain ⟨m,n⟩:=p
  obtain ⟨rfl,_⟩:=heads_some h m n hh
  exact absurd (by simp) hn
theorem mode_word (a:List UInt8) (h:modeL a≠0):a=word (modeL a)∧1≤modeL a∧modeL a≤3:=by
 unfold modeL at h ⊢
 by_cases h1:a=[102,105,108,101]
 ·rw [if_pos h1];exact ⟨by rw [h1];rfl,by omega,by omega⟩
 ·rw [if_neg h1] at h ⊢
  by_cases h2:a=[114,117,110]
  ·rw [if_pos h2];exact ⟨by rw [h2];rfl,by omega,by omega⟩
  ·rw [if_neg h2] at h ⊢
   by_cases h3:a=[116,114,101,101]
   ·rw [if_pos h3];exact ⟨by rw [h3];rfl,by omega,by omega⟩
   ·rw [if_neg h3] at h;exact absurd rfl h
theorem word_of (m:Int) (h:1≤m∧m≤3):modeL (word m)=m:=by
 rcases (by omega:m=1∨m=2∨m=3) with rfl | rfl | rfl <;> rfl
theorem split_one (a b x y:List UInt8) (ha:32 ∉ a) (hx:32 ∉ x) (e:a ++ 32 :: b=x ++ 32 :: y):a=x∧b=y:=by
 have h1:=cut_some 32 a b ha
 rw [e,cut_some 32 x y hx] at h1
 simp at h1
 exact ⟨h1.1.symm,h1.2.symm⟩
theorem heads_cut (a b:List UInt8) (ha:32 ∉ a):heads (a ++ 32 :: b)=if modeL a=0 then none else some (modeL a,b):=by
 by_cases h:modeL a=0
 ·rw [if_pos h]
  cases hh:heads (a ++ 32 :: b) with
  | none=>rfl
  | some p =>
   obtain ⟨m,n⟩:=p
   obtain ⟨e,hm⟩:=heads_some _ m n hh
   obtain ⟨rfl,_⟩:=split_one a b _ _ ha (word_no32 m) e
   rw [word_of m hm] at h
   omega
 ·rw [if_neg h]
  obtain ⟨e,hm⟩:=mode_word a h
  conv=>lhs;rw [e]
  exact heads_mk _ _ hm
theorem results_c3 {fn:Func} {p u v:Tmp} {ty:TypeId} (h:fn.results=#[.cell p ty,.tmp u,.tmp v]) (tmps:Array Value) (P:Program) (w:World) :
  (results fn tmps).run P w=((asAddr (tmps.getD p undef)).run P w).andThen fun a w₁=>((loadVar ty a).run P w₁).andThen fun x w₂=>.ok (.tuple #[x,tmps.getD u undef,tmps.getD v undef]) w₂:=by
 simp only [results,h]
 simp [Sem.run_bind,Result.andThen]
structure Box (w:World) (k:Nat) (x:En):Prop where
 c0:w.cell? ⟨k,0,none⟩=some (.string x.nm)
 c1:w.cell? ⟨k,1,none⟩=some (.int .i64 x.md)
 c2:w.cell? ⟨k,2,none⟩=some (.string x.ids)
 f0:w.frozen? ⟨k,0,none⟩=false
 f1:w.frozen? ⟨k,1,none⟩=false
 f2:w.frozen? ⟨k,2,none⟩=false
theorem Box.of {w:World} {k:Nat} {x:En} {t:TypeId} (h:w.heap[k]? = some (.cells #[.string x.nm,.int .i64 x.md,.string x.ids] t (0,0))):Box w k x :=
 ⟨cellAt h rfl,cellAt h rfl,cellAt h rfl,Lib.frozen_of_heap h 0,Lib.frozen_of_heap h 1,Lib.frozen_of_heap h 2⟩
theorem put3 {w w1:World} (h:Below w.heap.size w w1) (a b c:Value):Below w.heap.size w (((w1.setCell ⟨w.heap.size,0,none⟩ a).setCell ⟨w.heap.size,1,none⟩ b).setCell ⟨w.heap.size,2,none⟩ c):=((h.setCell (p:=⟨w.heap.size,0,none⟩) (Nat.le_refl _) _).setCell (p:=⟨w.heap.size,1,none⟩) (Nat.le_refl _) _).setCell (p:=⟨w.heap.size,2,none⟩) (Nat.le_refl _) _
theorem put3k {w w1:World} (h:Below w.heap.size w w1) (k:Nat) (hk:w.heap.size≤k) (a b c:Value):Below w.heap.size w (((w1.setCell ⟨k,0,none⟩ a).setCell ⟨k,1,none⟩ b).setCell ⟨k,2,none⟩ c):=((h.setCell (p:=⟨k,0,none⟩) hk _).setCell (p:=⟨k,1,none⟩) hk _).setCell (p:=⟨k,2,none⟩) hk _
theorem drop_bs (r:List UInt8) (k:Nat):(bs r).extract k r.length=bs (r.drop k):=by
 apply ByteArray.ext
 apply Array.toList_inj.1
 simp [bs,List.extract_eq_take_drop]
 exact List.take_of_length_le (by simp)
def noEn:En:=⟨⟨#[]⟩,0,⟨#[]⟩⟩
abbrev Z3:Obj:=.cells #[.string ⟨#[]⟩,.int .i64 0,.string ⟨#[]⟩] 167
def Has (w:World) (k:Nat):Prop:=w.heap[k]? = some Z3
theorem Has.box {w:World} {k:Nat} (h:Has w k):Box w k noEn:=Box.of (x:=noEn) h
theorem Has.below {w w':World} {k:Nat} (h:Has w k) (hb:Below w.heap.size w w'):Has w' k:=by
 have hl:k < w.heap.size:=by
  rcases Nat.lt_or_ge k w.heap.size with h' | h'
  ·exact h'
  ·unfold Has at h;simp [Array.getElem?_eq_none h'] at h
 exact (hb.block k hl).trans h
structure Zero (w:World) (k:Nat):Prop where
 k0:w.cell? ⟨k,0,none⟩=some (.string ⟨#[]⟩)
 k1:w.cell? ⟨k,1,none⟩=some (.int .i64 0)
 k2:w.cell? ⟨k,2,none⟩=some (.string ⟨#[]⟩)
 f0:w.frozen? ⟨k,0,none⟩=false
 f1:w.frozen? ⟨k,1,none⟩=false
 f2:w.frozen? ⟨k,2,none⟩=false
theorem Has.zero {w:World} {k:Nat} (h:Has w k):Zero w k:=⟨h.box.c0,h.box.c1,h.box.c2,h.box.f0,h.box.f1,h.box.f2⟩
theorem clone_box (s:ByteArray) (hs:s.size≤281474976710656) (w:World):Calls Tryz.prog 46 #[.string s] (w.alloc Z3).drew fun e w'=>e=.returned (.string s)∧Has w' w.heap.size∧Below w.heap.size w w' :=
 (clone_any s _ hs).mono fun _ _ h=>⟨h.1,Has.below (w:=(w.alloc Z3).drew) (alloc_at rfl) h.2,below2 (((Below.refl _ w).alloc (Nat.le_refl _) Z3).drew) h.2⟩
theorem clone_keep (s:ByteArray) (hs:s.size≤281474976710656) (w:World) (k:Nat) (h:Has w k):Calls Tryz.prog 46 #[.string s] w fun e w'=>e=.returned (.string s)∧Zero w' k∧Below w.heap.size w w' :=
 (clone_any s _ hs).mono fun _ _ g=>⟨g.1,(h.below g.2).zero,g.2⟩
theorem clone_new (s:ByteArray) (hs:s.size≤281474976710656) (w:World):Calls Tryz.prog 46 #[.string s] (w.alloc Z3) fun e w'=>e=.returned (.string s)∧Zero w' w.heap.size∧Below w.heap.size w w' :=
 (clone_any s _ hs).mono fun _ _ h=>⟨h.1,(Has.below (w:=w.alloc Z3) (alloc_at rfl) h.2).zero,below2 ((Below.refl _ w).alloc (Nat.le_refl _) Z3) h.2⟩
def rdV:Rd→Value
 | .err e=>.tuple #[enA noEn,.string ⟨#[]⟩,.int .i64 e]
 | .ok x r=>.tuple #[enA x,.string (bs r),.int .i64 0]
set_option maxHeartbeats 1600000 in
set_option maxRecDepth 100000 in
theorem readEntry_any (L:List UInt8) (hL:L.length≤1000000) (w:World) (hm:MaxAt w) :
  Calls Tryz.prog 167 #[.string (bs L)] w fun e w'=>e=.returned (rdV (rd L))∧Below w.heap.size w w':=by
 obtain ⟨W,hW⟩:∃ W,w.alloc (.cells #[.string ⟨#[]⟩,.int .i64 0,.string ⟨#[]⟩] 167)=W:=⟨_,rfl⟩
 have hbW:Below w.heap.size w W:=by rw [← hW];exact (Below.refl _ _).alloc (Nat.le_refl _) _
 have hbox:W.heap[w.heap.size]? = some (.cells #[.string ⟨#[]⟩,.int .i64 0,.string ⟨#[]⟩] 167 (0,0)):=by rw [← hW];exact alloc_at rfl
 have hlt:w.heap.size < W.heap.size:=by rw [← hW];simp
 have hmW:=hm.below hbW
 have HBW:=hideIt hbW
 have HKW:Hid (∀ w1,Below W.heap.size W w1→Box w1 w.heap.size noEn):=hideIt (fun w1 h1=>Box.of (x:=noEn) ((h1.block _ hlt).trans hbox))
 have HR:Hid (rd L=match cut0 L with
  | none=>.err 4
  | some (h,r)=>if r.length < 32 then .err 4 else match heads h with
   | none=>.err 60
   | some (m,n)=>.ok ⟨bs n,m,bs (r.take 32)⟩ (r.drop 32)):=rfl
 have HM:=hideIt (modeOf_any)
 clear hbW hbox
 rcases cut_at 0 L with h0 | ⟨hd,r,rfl,h0⟩
 ·have HC:=hideIt (sCut_none L 0 hL h0 W hmW)
  have HR2:Hid (rd L=.err 4):=hideIt (by rw [HR.out,(cut0_none L).2 h0])
  clear HR hL h0 hmW
  go_enter Tryz.func167,Tryz.ntmps167
  go_wp2_with (first | (go_at_call 129;refine HC.out.mono ?_;rintro e w1 ⟨rfl,hb1⟩;obtain ⟨k0,k1,k2,f0,f1,f2⟩:=HKW.out w1 hb1;simp only [noEn] at k0 k1 k2))
  (try simp only [Exit.inBlock,Exit.then])
  refine bodyPost_ret (v:=.tuple #[enA noEn,.string ⟨#[]⟩,.int .i64 4]) ?_ rfl ⟨by rw [HR2.out];rfl,?_⟩
  ·rw [results_c3 rfl]
   go_simp
   rfl
  ·exact put3 (below2 HBW.out hb1) _ _ _
 ·have hl2:hd.length + r.length < 1000000:=by simp at hL;omega
  have HC:=hideIt (sCut_some hd r 0 hl2 h0 W hmW)
  have HR1:Hid (rd (hd ++ 0 :: r)=if r.length < 32 then .err 4 else match heads hd with
   | none=>.err 60
   | some (m,n)=>.ok ⟨bs n,m,bs (r.take 32)⟩ (r.drop 32)):=hideIt (by rw [HR.out,cut0_mk hd r h0])
  clear HR
  have hrs:(bs r).size=r.length:=bs_size r
  obtain ⟨q,hq⟩:∃ q,(bs r).size=q:=⟨_,rfl⟩
  obtain ⟨x,hx⟩:∃ x,bs (hd ++ 0 :: r)=x:=⟨_,rfl⟩
  rw [hx] at HC ⊢
  by_cases h32:r.length < 32
  ·have HR2:Hid (rd (hd ++ 0 :: r)=.err 4):=hideIt (by rw [HR1.out,if_pos h32])
   have g1:decide ((q:Int) < 32)=true:=decide_eq_true (by omega)
   have g2:(q:Int) < 32:=by omega
   clear HR1 hL h0 hmW hl2 h32 hx hrs
   go_enter Tryz.func167,Tryz.ntmps167
   go_wp2_with (first | (go_at_call 129;refine HC.out.mono ?_;rintro e w1 ⟨rfl,hb1⟩;obtain ⟨k0,k1,k2,f0,f1,f2⟩:=HKW.out w1 hb1;simp only [noEn] at k0 k1 k2))
   (try simp only [Exit.inBlock,Exit.then])
   refine bodyPost_ret (v:=.tuple #[enA noEn,.string ⟨#[]⟩,.int .i64 4]) ?_ rfl ⟨by rw [HR2.out];rfl,?_⟩
   ·rw [results_c3 rfl]
    go_simp
    rfl
   ·exact put3 (below2 HBW.out hb1) _ _ _
  ·have g1:decide ((q:Int) < 32)=false:=decide_eq_false (by omega)
   have g2:¬ (q:Int) < 32:=by omega
   have HR2:Hid (rd (hd ++ 0 :: r)=match heads hd with
    | none=>.err 60
    | some (m,n)=>.ok ⟨bs n,m,bs (r.take 32)⟩ (r.drop 32)):=hideIt (by rw [HR1.out,if_neg h32])
   have HMX:Hid (∀ w1,Below W.heap.size W w1→MaxAt w1):=hideIt (fun w1 h1=>hmW.below h1)
   clear HR1 hL h0 hmW hx
   rcases cut_at 32 hd with h32s | ⟨a,b,rfl,h32s⟩
   ·have HC2:=hideIt (sCut_none hd 32 (by omega) h32s)
    have HR3:Hid (rd (hd ++ 0 :: r)=.err 60):=hideIt (by rw [HR2.out,heads_none hd h32s])
    clear HR2 hl2 h32 hrs
    go_enter Tryz.func167,Tryz.ntmps167
    go_wp2_with (first | (go_at_call_of 129 (Value.string x);refine HC.out.mono ?_;rintro e w1 ⟨rfl,hb1⟩) | (go_at_call 129;refine (HC2.out _ (HMX.out _ hb1)).mono ?_;rintro e w2 ⟨rfl,hb2⟩;obtain ⟨k0,k1,k2,f0,f1,f2⟩:=HKW.out w2 (below2 hb1 hb2);simp only [noEn] at k0 k1 k2) | (go_at_call 215;refine (HM.out _ _).mono ?_;rintro e w3 ⟨rfl,hw3⟩;obtain rfl:=hw3.symm))
    (try simp only [Exit.inBlock,Exit.then])
    refine bodyPost_ret (v:=.tuple #[enA noEn,.string ⟨#[]⟩,.int .i64 60]) ?_ rfl ⟨by rw [HR3.out];rfl,?_⟩
    ·rw [results_c3 rfl]
     go_simp
     rfl
    ·exact put3 (below2 HBW.out (below2 hb1 hb2)) _ _ _
   ·have hl3:a.length + b.length < 1000000:=by simp at hl2;omega
    have HC2:=hideIt (sCut_some a b 32 hl3 h32s)
    obtain ⟨y,hy⟩:∃ y,bs (a ++ 32 :: b)=y:=⟨_,rfl⟩
    rw [hy] at HC HC2
    obtain ⟨m,hmm⟩:∃ m,modeL a=m:=⟨_,rfl⟩
    have HM2:Hid (∀ w,Calls Tryz.prog 215 #[.string (bs a)] w fun e w'=>e=.returned (.int .i64 m)∧w'=w):=hideIt (by have:=HM.out (bs a);rw [bs_list,hmm] at this;exact this)
    have HR3:Hid (rd ((a ++ 32 :: b) ++ 0 :: r)=if m=0 then .err 60 else .ok ⟨bs b,m,bs (r.take 32)⟩ (r.drop 32)):=hideIt (by
     rw [HR2.out,heads_cut a b h32s,hmm]
     by_cases hm0:m=0
     ·rw [if_pos hm0,if_pos hm0]
     ·rw [if_neg hm0,if_neg hm0])
    clear HR2 hl2 HM hy hmm
    by_cases hm0:m=0
    ·subst hm0
     clear h32 hrs hl3
     go_enter Tryz.func167,Tryz.ntmps167
     go_wp2_with (first | (go_at_call_of 129 (Value.string x);refine HC.out.mono ?_;rintro e w1 ⟨rfl,hb1⟩) | (go_at_call 129;refine (HC2.out _ (HMX.out _ hb1)).mono ?_;rintro e w2 ⟨rfl,hb2⟩;obtain ⟨k0,k1,k2,f0,f1,f2⟩:=HKW.out w2 (below2 hb1 hb2);simp only [noEn] at k0 k1 k2) | (go_at_call 215;refine (HM2.out _).mono ?_;rintro e w3 ⟨rfl,hw3⟩;obtain rfl:=hw3.symm))
     (try simp only [Exit.inBlock,Exit.then])
     refine bodyPost_ret (v:=.tuple #[enA noEn,.string ⟨#[]⟩,.int .i64 60]) ?_ rfl ⟨by rw [HR3.out];rfl,?_⟩
     ·rw [results_c3 rfl]
      go_simp
      rfl
     ·exact put3 (below2 HBW.out (below2 hb1 hb2)) _ _ _
    ·have n0:(m == 0)=false:=by simpa using hm0
     have HR4:Hid (rd ((a ++ 32 :: b) ++ 0 :: r)=.ok ⟨bs b,m,bs (r.take 32)⟩ (r.drop 32)):=hideIt (by rw [HR3.out,if_neg hm0])
     clear HR3
     have b1:(32:Int)≤(q:Int):=by omega
     have HK1:=hideIt (fun w=>clone_any (bs b) w (by rw [bs_size];omega))
     have ex1:(bs r).extract 0 32=bs (r.take 32):=by
      apply ByteArray.ext
      simp [bs]
     have ex2:(bs r).extract 32 q=bs (r.drop 32):=by rw [← hq,hrs];exact drop_bs r 32
     have HK2:=hideIt (fun w=>clone_any (bs (r.take 32)) w (by rw [bs_size];simp;omega))
     have HA0:=hideIt (clone_box (bs b) (by rw [bs_size];omega))
     have HA2:=hideIt (clone_keep (bs (r.take 32)) (by rw [bs_size];simp;omega))
     have HB4:=hideIt (clone_new (bs (r.take 32)) (by rw [bs_size];simp;omega))
     clear h32 hrs hl3
     go_enter Tryz.func167,Tryz.ntmps167
     go_wp2_with (first | (go_at_call_of 129 (Value.string x);refine HC.out.mono ?_;rintro e w1 ⟨rfl,hb1⟩) | (go_at_call 129;refine (HC2.out _ (HMX.out _ hb1)).mono ?_;rintro e w2 ⟨rfl,hb2⟩) | (go_at_call 215;refine (HM2.out _).mono ?_;rintro e w3 ⟨rfl,hw3⟩;obtain rfl:=hw3.symm))
     have HB2:=hideIt (below2 hb1 hb2)
     clear hb1 hb2
     have HA1:=hideIt (HA0.out w2)
     clear HA0
     go_region_with (first
      | (go_at_call_of 46 (Value.string (bs b));refine HA1.out.mono ?_;rintro e w3 ⟨rfl,hx3,hb3⟩)
      | (go_at_call_of 46 (Value.string (bs b));refine (HK1.out _).mono ?_;rintro e w3 ⟨rfl,hb3⟩)
      | (go_at_call_of 46 (Value.string (bs (List.take 32 r)));refine (HA2.out _ _ hx3).mono ?_;rintro e w4 ⟨rfl,⟨k0,k1,k2,f0,f1,f2⟩,hb4⟩)
      | (go_at_call_of 46 (Value.string (bs (List.take 32 r)));refine (HB4.out _).mono ?_;rintro e w4 ⟨rfl,⟨k0,k1,k2,f0,f1,f2⟩,hb4⟩)
      | (go_at_call_of 46 (Value.string (bs (List.take 32 r)));refine (HK2.out _).mono ?_;rintro e w4 ⟨rfl,hb4⟩))
     all_goals have hb34:Below w2.heap.size w2 w4:=below2 ⟨hb3.os,hb3.tape,hb3.output,hb3.size,hb3.block⟩ hb4
     all_goals have hbw4:=below2 HB2.out hb34
     all_goals obtain ⟨p0,p1,p2,g0,g1',g2'⟩:=HKW.out w4 hbw4
     all_goals simp only [noEn] at p0 p1 p2
     all_goals obtain ⟨u0,u1,u2,v0,v1,v2⟩:=HKW.out (w4.alloc (.cells #[.string (bs b),.int .i64 m,.string (bs (r.take 32))] 167)) (below2 hbw4 ((Below.refl _ _).alloc (Nat.le_refl _) _))
     all_goals simp only [noEn] at u0 u1 u2
     all_goals have s2:w.heap.size < w2.heap.size:=Nat.lt_of_lt_of_le hlt HB2.out.size
     all_goals have s3:w2.heap.size≤w3.heap.size:=hb3.size
     all_goals have s4:w3.heap.size≤w4.heap.size:=hb4.size
     all_goals have n2:¬ w2.heap.size=w.heap.size:=by omega
     all_goals have n3:¬ w3.heap.size=w.heap.size:=by omega
     all_goals have n4:¬ w4.heap.size=w.heap.size:=by omega
     all_goals have n2':¬ w.heap.size=w2.heap.size:=by omega
     all_goals have n3':¬ w.heap.size=w3.heap.size:=by omega
     all_goals have n4':¬ w.heap.size=w4.heap.size:=by omega
     all_goals have HW4:=hideIt (below2 HBW.out hbw4)
     all_goals clear hb34 hbw4 hb3 hb4 HB2 HBW
     all_goals go_wp2
     all_goals go_region
     all_goals go_wp2
     all_goals refine bodyPost_ret (v:=.tuple #[enA ⟨bs b,m,bs (r.take 32)⟩,.string (bs (r.drop 32)),.int .i64 0]) ?_ rfl ⟨by rw [HR4.out];rfl,?_⟩
     ·rw [results_c3 rfl];go_simp;rfl
     ·exact (put3 (HW4.out.alloc (by omega) _) _ _ _).drew
     ·rw [results_c3 rfl];go_simp;rfl
     ·exact (put3 (put3k HW4.out w3.heap.size (by omega) _ _ _) _ _ _).drew
     ·rw [results_c3 rfl];go_simp;rfl
     ·exact (put3 (put3k HW4.out w2.heap.size (by omega) _ _ _) _ _ _).drew
end Go.Proofs.YtogjlepdejonpaaGreatDoor
namespace Go.Proofs.YtogjlepdejonpaaGreatDoor
open Go.RowKit Go.Shelf
theorem esV_at:∀ (l:List En) (j:Nat) (x:En),l[j]? = some x→(esV l)[j * 3]? = some (.string x.nm)∧(esV l)[j * 3 + 1]? = some (.int .i64 x.md)∧(esV l)[j * 3 + 2]? = some (.string x.ids)
 | [],j,x,h=>by simp at h
 | y :: t,0,x,h=>by
  simp at h
  subst h
  exact ⟨rfl,rfl,rfl⟩
 | y :: t,j + 1,x,h=>by
  have h':t[j]? = some x:=by simpa using h
  obtain ⟨a,b,c⟩:=esV_at t j x h'
  have e:esV (y :: t)=.string y.nm :: .int .i64 y.md :: .string y.ids :: esV t:=rfl
  rw [e,show (j + 1) * 3=j * 3 + 1 + 1 + 1 by omega]
  exact ⟨by simpa using a,by simpa using b,by simpa using c⟩
theorem esV_snoc (l:List En) (x:En):esV (l ++ [x])=esV l ++ [.string x.nm,.int .i64 x.md,.string x.ids]:=by simp [esV,enV]
theorem block_lt {w:World} {g:Nat} {o:Obj} (h:w.heap[g]? = some o):g < w.heap.size:=by
 rcases Nat.lt_or_ge g w.heap.size with h' | h'
 ·exact h'
 ·simp [Array.getElem?_eq_none h'] at h
theorem ERow.of_row {w:World} {B:Nat} {t:TypeId} {v:Value} {l:List En} (h:w.ownsRow B t 3 v l.length (esV l)):ERow w v l:=by
 rcases h.2 with ⟨e,h0⟩ | ⟨g,cap,cur,e,h1,hg,h2,h3,r⟩
 ·exact ⟨none,0,by rw [e,h0],by omega,⟨by unfold maxLen;omega,fun _=>rfl⟩,fun hp=>by omega⟩
 ·subst e
  refine ⟨some ⟨g,0,none⟩,cap,rfl,h2,⟨h3,fun h=>by cases h⟩,fun _=>⟨g,0,rfl,block_lt hg,fun j x hj=>?_⟩⟩
  have hl:j < l.length:=(List.getElem?_eq_some_iff.1 hj).1
  obtain ⟨a,b,c⟩:=esV_at l j x hj
  refine ⟨?_,?_,?_⟩
  ·rw [Nat.zero_add,h.cellAt (j * 3) (by omega),a]
  ·rw [Nat.zero_add,h.cellAt (j * 3 + 1) (by omega),b]
  ·rw [Nat.zero_add,h.cellAt (j * 3 + 2) (by omega),c]
theorem own_below {w w':World} {B n s:Nat} {t:TypeId} {v:Value} {xs:List Value} (h:w.ownsRow B t s v n xs) (hb:Below w.heap.size w w'):w'.ownsRow B t s v n xs:=by
 refine ⟨h.1,?_⟩
 rcases h.2 with h0 | ⟨g,cap,cur,e,h1,hg,r⟩
 ·exact .inl h0
 ·exact .inr ⟨g,cap,cur,e,h1,(hb.block g (block_lt hg)).trans hg,r⟩
theorem infoE:(Tryz.prog.info? 167).map (fun i=>(i.zero,i.size,i.bytes))=some (some (.agg #[.string ⟨#[]⟩,.int .i64 0,.string ⟨#[]⟩]),3,40):=by kernel_rfl
theorem three_new {w:World} (x:En) (t:TypeId) (j:Nat) (u:Value) (h:[Value.string x.nm,.int .i64 x.md,.string x.ids][j]? = some u):(w.alloc (.cells #[.string x.nm,.int .i64 x.md,.string x.ids] t)).cell? ((⟨w.heap.size,0,none⟩:Addr).add j)=some u:=by
 have hrow:(w.alloc (.cells #[.string x.nm,.int .i64 x.md,.string x.ids] t)).heap[w.heap.size]? = some (.cells #[.string x.nm,.int .i64 x.md,.string x.ids] t (0,0)):=alloc_at rfl
 match j,h with
 | 0,h=>exact cellAt hrow (by simpa using h)
 | 1,h=>exact cellAt hrow (by simpa using h)
 | 2,h=>exact cellAt hrow (by simpa using h)
 | j + 3,h=>simp at h
theorem row_ge {B n:Nat} {t:TypeId} {v:Value} {xs:List Value} {w:World} (h:w.ownsRow B t 3 v n xs):∀ k,v.ownBlock=some k→B≤k:=by
 intro k hk
 rcases h.2 with ⟨e,_⟩ | ⟨g,cap,cur,e,h1,_⟩
 ·subst e;simp [Value.ownBlock] at hk
 ·subst e;simp [Value.ownBlock] at hk;omega
def szOf:Value→Nat
 | .string s=>s.size
 | _=>0
theorem rd_err (s:List UInt8) (e:Int) (h:rd s=.err e):e=4∨e=60:=by
 unfold rd at h
 repeat' split at h
 all_goals first | (cases h;done) | (simp only [Rd.err.injEq] at h;omega)
def DecTo (w:World) (L:List UInt8) (e:Ending) (w':World):Prop:=∃ v,e=.returned (.tuple #[v,.int .i64 (dec L).1])∧ERow w' v (dec L).2∧Below w.heap.size w w'
theorem ERow.nil (w:World):ERow w (.slice none 0 0) []:=⟨none,0,rfl,Nat.le_refl _,⟨Nat.zero_le _,fun _=>rfl⟩,fun h=>by simp at h⟩
theorem decF_ok1 (f:Nat) (acc:List En) (R:List UInt8) (x:En) (r:List UInt8) (hf:R.length≤f) (h:rd R=.ok x r):∃ g,r.length≤g∧decF f acc R=if acc.length=256 then (3,[]) else decF g (acc ++ [x]) r:=by
 obtain ⟨e1,e2,-⟩:=rd_ok R x r h
 cases f with
 | zero=>omega
 | succ f =>
  refine ⟨f,by omega,?_⟩
  rw [decF,if_neg (by rw [e1];exact enc1_ne _ _),h]
theorem decF_err (f:Nat) (acc:List En) (R:List UInt8) (e:Int) (hf:R.length≤f) (hn:R≠[]) (h:rd R=.err e):decF f acc R=(e,[]):=by
 cases f with
 | zero=>exact absurd (List.length_eq_zero_iff.1 (by omega)) hn
 | succ f=>rw [decF,if_neg hn,h]
theorem decF_end (f:Nat) (acc:List En):decF f acc []=fin acc:=by cases f <;> simp [decF]
set_option maxHeartbeats 1600000 in
set_option maxRecDepth 100000 in
theorem decode_any (L:List UInt8) (hL:L.length≤1000000) (w:World) (hm:MaxAt w) :
  Calls Tryz.prog 133 #[.string (bs L)] w fun e w'=>DecTo w L e w':=by
 obtain ⟨i0,hi0,hz0,hz1,hz2⟩:=info_parts infoE
 have HT:Hid (∀ e w',DecTo w L e w'↔∃ v,e=.returned (.tuple #[v,.int .i64 (dec L).1])∧ERow w' v (dec L).2∧Below w.heap.size w w'):=hideIt (fun _ _=>Iff.rfl)
 have HM:=hideIt hm
 have HRE:=hideIt (readEntry_any)
 have HCK:=hideIt (check_any)
 clear hm
 obtain ⟨S0,hS0⟩:∃ S0,bs L=S0:=⟨_,rfl⟩
 rw [hS0]
 go_enter Tryz.func133,Tryz.ntmps133
 go_wp2
 go_loopw [0,4] (fun t u wr=>∃ (acc:List En) (R:List UInt8) (f:Nat),t=.string (bs R)∧R.length≤f∧R.length≤1000000∧decF f acc R=dec L∧acc.length≤256∧wr.ownsRow w.heap.size 167 3 u acc.length (esV acc)∧Below w.heap.size w wr) (fun t _ _=>szOf t)
 case atStart=>exact ⟨[],L,L.length,by rw [hS0],Nat.le_refl _,hL,rfl,by simp,⟨rfl,.inl ⟨rfl,rfl⟩⟩,Below.refl _ _⟩
 case round =>
  obtain ⟨acc,R,f,rfl,hf,hR,hdec,hacc,hrow,hb⟩:=hrel
  have HO:=hideIt hrow
  have HB:=hideIt hb
  have HD:=hideIt hdec
  have hws:w.heap.size≤wr.heap.size:=hb.size
  clear hrow hb hdec hS0
  by_cases hn:R=[]
  ·subst hn
   have q1:((bs []).toList == [])=true:=by rw [ByteArray.toList_eq];rfl
   have q2:(bs []).toList.isEmpty=true:=by rw [ByteArray.toList_eq];rfl
   have HC:=hideIt (HCK.out _ acc wr (ERow.of_row HO.out))
   have HD2:Hid (dec L=fin acc):=hideIt (by rw [← HD.out,decF_end])
   obtain ⟨z,hz⟩:∃ z,chk acc=z:=⟨_,rfl⟩
   rw [hz] at HC
   have HZ:=hideIt hz
   clear hz HD
   obtain ⟨av,cv,hv,_⟩:=ERow.of_row HO.out
   subst hv
   by_cases h0:z=0
   ·subst h0
    go_wp2_with (first | (go_at_call 168;refine HC.out.mono ?_;rintro e w1 ⟨rfl,hb1⟩))
    go_ret2
    refine (HT.out _ _).2 ⟨.slice av acc.length cv,?_,?_,below2 HB.out hb1⟩
    ·rw [HD2.out,fin,HZ.out];rfl
    ·rw [HD2.out,fin,if_pos HZ.out]
     exact (ERow.of_row HO.out).below hb1
   ·have z1:(z == 0)=false:=by simpa using h0
    go_wp2_with (first | (go_at_call 168;refine HC.out.mono ?_;rintro e w1 ⟨rfl,hb1⟩))
    go_ret2
    refine (HT.out _ _).2 ⟨.slice none 0 0,?_,?_,below2 HB.out hb1⟩
    ·rw [HD2.out,fin,HZ.out];rfl
    ·rw [HD2.out,fin,if_neg (by rw [HZ.out];exact h0)]
     exact ERow.nil _
  ·have q1:((bs R).toList == [])=false:=by rw [ByteArray.toList_eq,bs_list];simpa using hn
   have q2:(bs R).toList.isEmpty=false:=by rw [ByteArray.toList_eq,bs_list];simpa using hn
   obtain ⟨S1,hS1⟩:∃ S1,bs R=S1:=⟨_,rfl⟩
   rw [hS1] at q1 q2 ⊢
   have HR1:=hideIt (HRE.out R hR wr (HM.out.below HB.out))
   rw [hS1] at HR1
   cases hr:rd R with
   | err e =>
    have HR2:Hid (Calls Tryz.prog 167 #[.string S1] wr fun e' w'=>e'=.returned (.tuple #[.agg #[.string ⟨#[]⟩,.int .i64 0,.string ⟨#[]⟩],.string ⟨#[]⟩,.int .i64 e])∧Below wr.heap.size wr w'):=hideIt (by have:=HR1.out;rw [hr] at this;exact this)
    have HD2:Hid (dec L=(e,[])):=hideIt (by rw [← HD.out,decF_err f acc R e hf hn hr])
    have z1:(e == 0)=false:=by rcases rd_err R e hr with h | h <;> simp [h]
    clear HR1 HD hr hn hf
    go_wp2_with (first | (go_at_call 167;refine HR2.out.mono ?_;rintro e' w1 ⟨rfl,hb1⟩))
    go_ret2
    refine (HT.out _ _).2 ⟨.slice none 0 0,?_,?_,below2 HB.out (below2 hb1 ((Below.refl _ _).alloc (Nat.le_refl _) _))⟩
    ·rw [HD2.out];rfl
    ·rw [HD2.out]
     exact ERow.nil _
   | ok x r =>
    have HR2:Hid (Calls Tryz.prog 167 #[.string S1] wr fun e' w'=>e'=.returned (.tuple #[.agg #[.string x.nm,.int .i64 x.md,.string x.ids],.string (bs r),.int .i64 0])∧Below wr.heap.size wr w'):=hideIt (by have:=HR1.out;rw [hr] at this;exact this)
    obtain ⟨g,hg,hdg⟩:=decF_ok1 f acc R x r hf hr
    have HX:=hideIt (rd_ok R x r hr)
    have HDG:=hideIt hdg
    clear HR1 hr hn hf hdg
    obtain ⟨n,hnn⟩:∃ n,acc.length=n:=⟨_,rfl⟩
    obtain ⟨av,cv,hv,hle,hcm,_⟩:=ERow.of_row HO.out
    subst hv
    rw [hnn] at hacc hle HO ⊢
    have HN:=hideIt hnn
    clear hnn
    by_cases h256:n=256
    ·subst h256
     go_wp2_with (first | (go_at_call 167;refine HR2.out.mono ?_;rintro e' w1 ⟨rfl,hb1⟩))
     go_ret2
     refine (HT.out _ _).2 ⟨.slice none 0 0,?_,?_,below2 HB.out (below2 hb1 ((Below.refl _ _).alloc (Nat.le_refl _) _))⟩
     ·rw [← HD.out,HDG.out,if_pos HN.out];rfl
     ·rw [← HD.out,HDG.out,if_pos HN.out]
      exact ERow.nil _
    ·have m1:¬ (n:Int)=256:=by omega
     have m2:((n:Int) == 256)=false:=by simpa using m1
     have HTN:Hid (∀ (w1:World) (j:Nat) (u:Value),[Value.string x.nm,.int .i64 x.md,.string x.ids][j]? = some u→((w1.alloc (.cells #[.string x.nm,.int .i64 x.md,.string x.ids] 167)).alloc (.cells #[.string x.nm,.int .i64 x.md,.string x.ids] 167)).cell? ((⟨w1.heap.size + 1,0,none⟩:Addr).add j)=some u):=hideIt (fun w1 j u h=>by
      have:=three_new (w:=w1.alloc (.cells #[.string x.nm,.int .i64 x.md,.string x.ids] 167)) x 167 j u h
      simpa using this)
     go_wp2_with (first | (go_at_call 167;refine HR2.out.mono ?_;rintro e' w1 ⟨rfl,hb1⟩;have hw1:wr.heap.size≤w1.heap.size:=hb1.size;have HO1:=hideIt (own_below HO.out hb1);have HB1:=hideIt (below2 HB.out hb1)) | (at_builtin;refine wpList_append_own _ rfl _ _ 164 rfl w.heap.size 167 i0 (.agg #[.string ⟨#[]⟩,.int .i64 0,.string ⟨#[]⟩]) 3 40 Tryz.underlying164 hi0 hz0 hz1 hz2 rfl (by decide) _ _ _ rfl ((HO1.out.alloc _).alloc _) ⟨w1.heap.size + 1,0,none⟩ 1 1 [.string x.nm,.int .i64 x.md,.string x.ids] rfl rfl (HTN.out w1) (fun u hu=>by simp at hu;rcases hu with rfl | rfl | rfl <;> rfl) (by unfold maxLen;omega) (by omega) (by simp;omega) ?_;intro v3 w3 hown3 hg3 hnil3))
     go_roundw
     case rel =>
      refine ⟨acc ++ [x],r,g,rfl,hg,by have:=HX.out.2.1;omega,by rw [← HD.out,HDG.out,if_neg (by rw [HN.out];exact h256)],by simp [HN.out];omega,?_,?_⟩
      ·rw [esV_snoc]
       simpa [HN.out] using hown3
      ·exact Below.grown ((HB1.out.alloc (by omega) _).alloc (by simp;omega) _) hg3 (by simp;omega) (row_ge HO.out)
     case measure =>
      have:=HX.out.2.1
      rw [← hS1]
      simp [szOf,bs_size]
      omega
end Go.Proofs.YtogjlepdejonpaaGreatDoor
namespace Go.Proofs.YtogjlepdejonpaaGreatDoor
namespace Ob
open Go.RowKit Go.Shelf
structure Lnk where
 kd:Int
 ids:ByteArray
def lkV (x:Lnk):List Value:=[.int .i64 x.kd,.string x.ids]
def lksV (l:List Lnk):List Value:=l.flatMap lkV
theorem lksV_at:∀ (l:List Lnk) (j:Nat) (x:Lnk),l[j]? = some x→(lksV l)[j * 2]? = some (.int .i64 x.kd)∧(lksV l)[j * 2 + 1]? = some (.string x.ids)
 | [],j,x,h=>by simp at h
 | y :: t,0,x,h=>by
  simp at h
  subst h
  exact ⟨rfl,rfl⟩
 | y :: t,j + 1,x,h=>by
  have h':t[j]? = some x:=by simpa using h
  obtain ⟨a,b⟩:=lksV_at t j x h'
  have e:lksV (y :: t)=.int .i64 y.kd :: .string y.ids :: lksV t:=rfl
  rw [e,show (j + 1) * 2=j * 2 + 1 + 1 by omega]
  exact ⟨by simpa using a,by simpa using b⟩
theorem lksV_snoc (l:List Lnk) (x:Lnk):lksV (l ++ [x])=lksV l ++ [.int .i64 x.kd,.string x.ids]:=by simp [lksV,lkV]
def LCells (w:World) (b o:Nat) (l:List Lnk):Prop:=b < w.heap.size∧∀ (i:Nat) (x:Lnk),l[i]? = some x→w.cell? ⟨b,o + i * 2,none⟩=some (.int .i64 x.kd)∧w.cell? ⟨b,o + i * 2 + 1,none⟩=some (.string x.ids)
def LRow (w:World) (v:Value) (l:List Lnk):Prop:=∃ a c,v=.slice a l.length c∧l.length≤c∧(c≤maxLen∧(a=none→c=0))∧(0 < l.length→∃ b o,a=some ⟨b,o,none⟩∧LCells w b o l)
theorem LRow.nil (w:World):LRow w (.slice none 0 0) []:=⟨none,0,rfl,Nat.le_refl _,⟨Nat.zero_le _,fun _=>rfl⟩,fun h=>by simp at h⟩
theorem LRow.of_row {w:World} {B:Nat} {t:TypeId} {v:Value} {l:List Lnk} (h:w.ownsRow B t 2 v l.length (lksV l)):LRow w v l:=by
 rcases h.2 with ⟨e,h0⟩ | ⟨g,cap,cur,e,h1,hg,h2,h3,r⟩
 ·exact ⟨none,0,by rw [e,h0],by omega,⟨by unfold maxLen;omega,fun _=>rfl⟩,fun hp=>by omega⟩
 ·subst e
  refine ⟨some ⟨g,0,none⟩,cap,rfl,h2,⟨h3,fun h=>by cases h⟩,fun _=>⟨g,0,rfl,block_lt hg,fun j x hj=>?_⟩⟩
  have hl:j < l.length:=(List.getElem?_eq_some_iff.1 hj).1
  obtain ⟨a,b⟩:=lksV_at l j x hj
  refine ⟨?_,?_⟩
  ·rw [Nat.zero_add,h.cellAt (j * 2) (by omega),a]
  ·rw [Nat.zero_add,h.cellAt (j * 2 + 1) (by omega),b]
theorem two_new {w:World} (x:Lnk) (t:TypeId) (j:Nat) (u:Value) (h:[Value.int .i64 x.kd,.string x.ids][j]? = some u):(w.alloc (.cells #[.int .i64 x.kd,.string x.ids] t)).cell? ((⟨w.heap.size,0,none⟩:Addr).add j)=some u:=by
 have hrow:(w.alloc (.cells #[.int .i64 x.kd,.string x.ids] t)).heap[w.heap.size]? = some (.cells #[.int .i64 x.kd,.string x.ids] t (0,0)):=Cb.alloc_at rfl
 match j,h with
 | 0,h=>exact cellAt hrow (by simpa using h)
 | 1,h=>exact cellAt hrow (by simpa using h)
 | j + 2,h=>simp at h
def LOwn (w:World) (B:Nat) (t:TypeId) (v:Value) (l:List Lnk):Prop:=(l=[]∧∃ a,v=.slice a 0 0)∨w.ownsRow B t 2 v l.length (lksV l)
theorem LOwn.below {w w':World} {B:Nat} {t:TypeId} {v:Value} {l:List Lnk} (h:LOwn w B t v l) (hb:Below w.heap.size w w'):LOwn w' B t v l:=by
 rcases h with h | h
 ·exact .inl h
 ·exact .inr (own_below h hb)
theorem LOwn.row {w:World} {B:Nat} {t:TypeId} {v:Value} {l:List Lnk} (h:LOwn w B t v l):LRow w v l:=by
 rcases h with ⟨rfl,a,rfl⟩ | h
 ·exact ⟨a,0,rfl,Nat.le_refl _,⟨Nat.zero_le _,fun _=>rfl⟩,fun h=>by simp at h⟩
 ·exact LRow.of_row h
theorem own_ge {w:World} {B n s:Nat} {t:TypeId} {v:Value} {xs:List Value} (h:w.ownsRow B t s v n xs):∀ k,v.ownBlock=some k→B≤k:=by
 intro k hk
 rcases h.2 with ⟨e,_⟩ | ⟨g,cap,cur,e,h1,_⟩
 ·subst e;simp [Value.ownBlock] at hk
 ·subst e;simp [Value.ownBlock] at hk;omega
theorem own_mono {w:World} {B B' n s:Nat} {t:TypeId} {v:Value} {xs:List Value} (h:w.ownsRow B t s v n xs) (hB:B'≤B):w.ownsRow B' t s v n xs:=by
 refine ⟨h.1,?_⟩
 rcases h.2 with h0 | ⟨g,cap,cur,e,h1,r⟩
 ·exact .inl h0
 ·exact .inr ⟨g,cap,cur,e,by omega,r⟩
theorem own_one (w:World) (B:Nat) (t:TypeId) (x:Lnk) (hB:B≤w.heap.size):(w.alloc (.cells #[.int .i64 x.kd,.string x.ids] t)).ownsRow B t 2 (.slice (some ⟨w.heap.size,0,none⟩) 1 1) 1 (lksV [x]) :=
 ⟨rfl,.inr ⟨w.heap.size,1,#[.int .i64 x.kd,.string x.ids],rfl,hB,Cb.alloc_at rfl,Nat.le_refl _,by unfold maxLen;omega,rfl,rfl⟩⟩
theorem append_lk (w:World) {ops:Array Oper} {rest:List Oper} {o:Oper} {a:Act} {Q:Exit→Act→World→Prop} (hgd:o.guard=none) (s x:Operand) (T t:TypeId)
  (ho:o.op=.call { callee:=.builtin .append,args:=#[s,x],argTypes:=#[T,T] }) (i0:TypeInfo) (hT:Tryz.prog.underlying T=some (.slice t)) (hi0:Tryz.prog.info? t=some i0) (hz0:i0.zero=some (.agg #[.int .i64 0,.string ⟨#[]⟩])) (hz1:i0.size=2) (hz2:i0.bytes=24)
  (B:Nat) (v:Value) (acc:List Lnk) (hs:a.eval s=v) (hown:LOwn w B t v acc) (ad:Addr) (y:Lnk) (hx:a.eval x=.slice (some ad) 1 1) (hc:∀ j u,[Value.int .i64 y.kd,.string y.ids][j]? = some u→w.cell? (ad.add j)=some u) (hlen:acc.length≤100000) (hB:B≤w.heap.size)
  (h:∀ v' w',w'.ownsRow B t 2 v' (acc.length + 1) (lksV (acc ++ [y]))→Below B w w'→wpList Tryz.prog ops Q rest (a.put o.dst v') w'):wpList Tryz.prog ops Q (o :: rest) a w:=by
 have h1:∀ u ∈ [Value.int .i64 y.kd,.string y.ids],u.oneCell'=true:=fun u hu=>by simp at hu;rcases hu with rfl | rfl <;> rfl
 rcases hown with ⟨rfl,ao,rfl⟩ | hown
 ·refine wpList_append_grows w hgd s x T ho t i0 (.agg #[.int .i64 0,.string ⟨#[]⟩]) 2 24 hT hi0 hz0 hz1 hz2 rfl (by decide) ao 0 0 [] hs (fun _=>⟨rfl,rfl⟩) rfl (fun b _ j u hj=>by simp at hj) ad 1 1 [.int .i64 y.kd,.string y.ids] hx rfl hc h1 (by omega) (by unfold maxLen;omega) (by omega) ?_
  intro v' w' hown' hg
  exact h v' w' (own_mono hown' hB) ((Below.refl B w).grown hg hB (fun k hk=>by cases hk))
 ·refine wpList_append_own w hgd s x T ho B t i0 (.agg #[.int .i64 0,.string ⟨#[]⟩]) 2 24 hT hi0 hz0 hz1 hz2 rfl (by decide) v acc.length (lksV acc) hs hown ad 1 1 [.int .i64 y.kd,.string y.ids] hx rfl hc h1 (by unfold maxLen;omega) (by omega) hB ?_
  intro v' w' hown' hg _
  exact h v' w' (by rw [lksV_snoc];exact hown') ((Below.refl B w).grown hg hB (own_ge hown))
theorem infoL:(Tryz.prog.info? 168).map (fun i=>(i.zero,i.size,i.bytes))=some (some (.agg #[.int .i64 0,.string ⟨#[]⟩]),2,24):=by kernel_rfl
theorem infoM:(Tryz.prog.info? 106).map (fun i=>(i.zero,i.size,i.bytes))=some (some (.agg #[.int .i64 0,.string ⟨#[]⟩]),2,24):=by kernel_rfl
def tagLk (L:List UInt8):List Lnk × Int:=if (gT L).2=0 then ([⟨(gT L).1.kd,(gT L).1.tgt⟩],0) else ([],(gT L).2)
def comLk (L:List UInt8):List Lnk × Int:=if gCz L=0 then (⟨2,(gCm L).tr⟩ :: (gCm L).ps.map (fun p=>⟨3,p⟩),0) else ([],gCz L)
def enLk (x:En):Lnk:=⟨if x.md=3 then 2 else 1,x.ids⟩
def treeLk (L:List UInt8):List Lnk × Int:=((dec L).2.map enLk,(dec L).1)
def links (L:List UInt8):List Lnk × Int:=if (opn L).2.2=0 then (if (opn L).1=2 then treeLk (opn L).2.1 else if (opn L).1=3 then comLk (opn L).2.1 else if (opn L).1=4 then tagLk (opn L).2.1 else ([],0)) else ([],(opn L).2.2)
def LkTo (w:World) (r:List Lnk × Int) (e:Ending) (w':World):Prop:=∃ v,e=.returned (.tuple #[v,.int .i64 r.2])∧LRow w' v r.1∧Below w.heap.size w w'
theorem decF_len:∀ (f:Nat) (acc:List En) (s:List UInt8),acc.length≤256→(decF f acc s).2.length≤256
 | 0,acc,s,h=>by
  rw [decF,fin]
  simp only
  split
  ·exact h
  ·simp
 | f + 1,acc,s,h=>by
  rw [decF]
  split
  ·rw [fin]
   simp only
   split
   ·exact h
   ·simp
  ·split
   ·simp
   ·split
    ·simp
    ·exact decF_len f _ _ (by rw [List.length_append];simp;omega)
theorem dec_len (L:List UInt8):(dec L).2.length≤256:=decF_len _ _ _ (by simp)
theorem decF_err2:∀ (f:Nat) (acc:List En) (s:List UInt8),(decF f acc s).1≠0→(decF f acc s).2=[]
 | 0,acc,s,h=>by
  rw [decF,fin] at h ⊢
  simp only at h ⊢
  rw [if_neg h]
 | f + 1,acc,s,h=>by
  rw [decF] at h ⊢
  split
  ·rename_i hs
   rw [if_pos hs,fin] at h
   rw [fin]
   simp only at h ⊢
   rw [if_neg h]
  ·rename_i hs
   rw [if_neg hs] at h
   split
   ·rfl
   ·rename_i x r hr
    rw [hr] at h
    simp only at h
    split
    ·rfl
    ·rename_i h2
     rw [if_neg h2] at h
     exact decF_err2 f _ _ h
theorem dec_err (L:List UInt8) (h:(dec L).1≠0):(dec L).2=[]:=decF_err2 _ _ _ h
end Ob
end Go.Proofs.YtogjlepdejonpaaGreatDoor
namespace Go.Proofs.YtogjlepdejonpaaGreatDoor
namespace Ob
open Go.RowKit Go.Shelf
set_option maxHeartbeats 3200000 in
set_option maxRecDepth 100000 in
theorem tagLinks_any (L:List UInt8) (w:World) (hL:L.length≤1000000) (hm:MaxAt w) :
  Calls Tryz.prog 84 #[.string (bs L)] w fun e w'=>LkTo w (tagLk L) e w':=by
 have HT:Hid (∀ e w',LkTo w (tagLk L) e w'↔∃ v,e=.returned (.tuple #[v,.int .i64 (tagLk L).2])∧LRow w' v (tagLk L).1∧Below w.heap.size w w'):=hideIt (fun _ _=>Iff.rfl)
 have HG:=hideIt (getTag_any L w hL hm)
 have HL:Hid (tagLk L=if (gT L).2=0 then ([⟨(gT L).1.kd,(gT L).1.tgt⟩],0) else ([],(gT L).2)):=rfl
 obtain ⟨t,ht⟩:∃ t,(gT L).1=t:=⟨_,rfl⟩
 obtain ⟨z,hz⟩:∃ z,(gT L).2=z:=⟨_,rfl⟩
 rw [ht,hz] at HG HL
 obtain ⟨tgt,kd,nm,tx⟩:=t
 unfold tgV at HG
 simp only at HG HL
 have HB:Hid (∀ (w1:World),TBox (w1.alloc (.cells #[.string tgt,.int .i64 kd,.string nm,.string tx] 172)) w1.heap.size 172 ⟨tgt,kd,nm,tx⟩):=hideIt (fun w1=>TBox.new w1 172 ⟨tgt,kd,nm,tx⟩)
 obtain ⟨S,hS⟩:∃ S,bs L=S:=⟨_,rfl⟩
 rw [hS] at HG ⊢
 clear ht hz hm hL hS
 by_cases h0:z=0
 ·subst h0
  rw [if_pos rfl] at HL
  go_enter Tryz.func84,Tryz.ntmps84
  go_wp2_with (first | (go_at_call 135;refine HG.out.mono ?_;rintro e w1 ⟨rfl,hb1⟩;have T1:=hideIt (HB.out w1);have c0:=T1.out.c0;have c1:=T1.out.c1;dsimp only at c0 c1))
  go_ret2
  refine (HT.out _ _).2 ⟨.slice (some ⟨w1.heap.size + 1,0,none⟩) 1 1,by rw [HL.out] <;> rfl,?_,below2 (below2 hb1 (new_below _ _)) (new_below _ _)⟩
  rw [HL.out]
  have:=own_one (w1.alloc (.cells #[.string tgt,.int .i64 kd,.string nm,.string tx] 172)) 0 168 ⟨kd,tgt⟩ (Nat.zero_le _)
  exact LRow.of_row (l:=[⟨kd,tgt⟩]) (by simpa using this)
 ·have z1:(z != 0)=true:=by simpa using h0
  rw [if_neg h0] at HL
  go_enter Tryz.func84,Tryz.ntmps84
  go_wp2_with (first | (go_at_call 135;refine HG.out.mono ?_;rintro e w1 ⟨rfl,hb1⟩))
  go_ret2
  exact (HT.out _ _).2 ⟨.slice none 0 0,by rw [HL.out] <;> rfl,by rw [HL.out];exact LRow.nil _,below2 hb1 (new_below _ _)⟩
set_option maxHeartbeats 3200000 in
set_option maxRecDepth 100000 in
theorem commitLinks_any (L:List UInt8) (w:World) (hL:L.length≤1000000) (hk:Ok w) :
  Calls Tryz.prog 83 #[.string (bs L)] w fun e w'=>LkTo w (comLk L) e w':=by
 obtain ⟨i0,hi0,hz0,hz1,hz2⟩:=info_parts infoL
 have HT:Hid (∀ e w',LkTo w (comLk L) e w'↔∃ v,e=.returned (.tuple #[v,.int .i64 (comLk L).2])∧LRow w' v (comLk L).1∧Below w.heap.size w w'):=hideIt (fun _ _=>Iff.rfl)
 have HL:Hid (comLk L=if gCz L=0 then (⟨2,(gCm L).tr⟩ :: (gCm L).ps.map (fun p=>⟨3,p⟩),0) else ([],gCz L)):=rfl
 have HG:=hideIt (getCommit_any L w hL hk)
 have HLN:Hid (gCz L=0→(gCm L).ps.length≤4):=hideIt (fun h=>by
  unfold gCz at h
  split at h
  ·exact (comE_ok h).1
  ·omega)
 obtain ⟨S,hS⟩:∃ S,bs L=S:=⟨_,rfl⟩
 rw [hS] at HG ⊢
 obtain ⟨z,hz⟩:∃ z,gCz L=z:=⟨_,rfl⟩
 have HZ:=hideIt hz
 rw [hz] at HL HLN
 clear hk hL hS
 by_cases h0:z=0
 ·subst h0
  rw [if_pos rfl] at HL
  obtain ⟨d,hd⟩:∃ d,gCm L=d:=⟨_,rfl⟩
  have HG2:Hid (Calls Tryz.prog 134 #[.string S] w fun e w'=>∃ a k,e=.returned (.tuple #[.agg #[.string d.tr,.slice a d.ps.length k,.string d.au,.int .u64 (d.tm:Int),.string d.tx],.int .i64 0])∧SRow w' (.slice a d.ps.length k) d.ps∧Below w.heap.size w w'):=hideIt (HG.out.mono (by
   rintro e w' ⟨c,rfl,h1,h2,h3,h4⟩
   have hc:=h2 HZ.out
   rw [hd] at hc
   obtain ⟨tr,pv,ps,au,tm,tx⟩:=c
   simp only [Cm.mk.injEq,true_and] at hc
   obtain ⟨rfl,rfl,rfl,rfl,rfl⟩:=hc
   have hr:=h1
   obtain ⟨a,k,e,_⟩:=h1
   simp only at e hr
   subst e
   exact ⟨a,k,by rw [HZ.out];rfl,hr,h4⟩))
  rw [hd] at HL HLN
  have hlen:=HLN.out rfl
  obtain ⟨tr,pv,ps,au,tm,tx⟩:=d
  simp only at HG2 HL hlen
  obtain ⟨n,hn⟩:∃ n,ps.length=n:=⟨_,rfl⟩
  have HN:=hideIt hn
  rw [hn] at HG2 hlen
  clear hd hz HG HLN hn HZ
  have nI:(n:Int)≤4:=by omega
  go_enter Tryz.func83,Tryz.ntmps83
  go_wp2_with (first | (go_at_call 134;refine HG2.out.mono ?_;rintro e w1 ⟨a1,k1,rfl,hr1,hb1⟩;have C1:=hideIt (CBox.new w1 169 ⟨tr,.slice a1 n k1,ps,au,tm,tx⟩);have c0:=C1.out.c0;have c1:=C1.out.c1;have N1:=hideIt (C1.out.below (new_below _ (.cells #[.int .i64 2,.string tr] 168)));have d1:=N1.out.c1;dsimp only [cmO] at c0 c1 d1))
  obtain ⟨a',k',he,hlc,hcm,hcells⟩:=hr1
  simp only [Value.slice.injEq] at he
  obtain ⟨rfl,hne,rfl⟩:=he
  have HC:=hideIt hcells
  have hm1:=hcm.1
  unfold maxLen at hm1
  have HB1:=hideIt hb1
  have HS0:Hid (LOwn ((w1.alloc (.cells #[.string tr,.slice a1 n k1,.string au,.int .u64 (tm:Int),.string tx] 169)).alloc (.cells #[.int .i64 2,.string tr] 168)) w1.heap.size 168 (.slice (some ⟨w1.heap.size + 1,0,none⟩) 1 1) [⟨2,tr⟩]):=hideIt (.inr (by
   have:=own_one (w1.alloc (.cells #[.string tr,.slice a1 n k1,.string au,.int .u64 (tm:Int),.string tx] 169)) w1.heap.size 168 ⟨2,tr⟩ (by simp)
   simpa using this))
  have HS1:Hid (Below w1.heap.size w1 ((w1.alloc (.cells #[.string tr,.slice a1 n k1,.string au,.int .u64 (tm:Int),.string tx] 169)).alloc (.cells #[.int .i64 2,.string tr] 168))):=hideIt (below2 (new_below _ _) (new_below _ _))
  clear hb1 hcells hcm hne
  go_loopw [6,24] (fun v t wr=>∃ i:Nat,i≤n∧t=.int .i64 i∧LOwn wr w1.heap.size 168 v (⟨2,tr⟩ :: (ps.take i).map (fun p=>⟨3,p⟩))∧Below w1.heap.size w1 wr) (fun _ t _=>n - (intOf t).toNat)
  case atStart=>exact ⟨0,by omega,rfl,HS0.out,HS1.out⟩
  case round =>
   obtain ⟨i,hi,rfl,hown,hbl⟩:=hrel
   have HO:=hideIt hown
   have HBL:=hideIt hbl
   clear hown hbl HS0 HS1 C1 N1 c0 c1 d1
   by_cases hlt:i < n
   ·have i1:decide ((i:Int) < (n:Int))=true:=decide_eq_true (by omega)
    have i2:(i:Int) < (n:Int):=by omega
    obtain ⟨b,o,hab,hcl⟩:=HC.out (by rw [HN.out];omega)
    subst hab
    obtain ⟨y,hyi⟩:∃ y,ps[i]? = some y:=⟨ps[i]'(by rw [HN.out];exact hlt),by simp⟩
    have cy:=(hcl.below HBL.out).2 i y hyi
    have HTK:Hid (ps.take (i + 1)=ps.take i ++ [y]):=hideIt (by rw [List.take_add_one,hyi];rfl)
    have hsz:w1.heap.size≤wr.heap.size:=HBL.out.size
    clear hcl hyi
    go_wp2_with (first | (at_builtin;refine append_lk _ rfl _ _ 59 168 rfl i0 Tryz.underlying59 hi0 hz0 hz1 hz2 w1.heap.size _ (⟨2,tr⟩ :: (ps.take i).map (fun p=>⟨3,p⟩)) rfl (HO.out.below (new_below _ _)) ⟨wr.heap.size,0,none⟩ ⟨3,y⟩ rfl (two_new (w:=wr) ⟨3,y⟩ 168) (by simp;omega) (by simp;omega) ?_;intro v3 w3 hown3 hb3))
    go_roundw
    case rel =>
     refine ⟨i + 1,by omega,by go_num,.inr ?_,(HBL.out.alloc hsz _).trans hb3⟩
     rw [HTK.out]
     simpa using hown3
    case measure=>simp [intOf];omega
   ·obtain rfl:i=n:=by omega
    have i1:decide ((i:Int) < (i:Int))=false:=decide_eq_false (by omega)
    go_wp2
    go_ret2
    refine (HT.out _ _).2 ⟨_,by rw [HL.out] <;> rfl,?_,below2 HB1.out HBL.out⟩
    rw [HL.out]
    have:=HO.out.row
    rw [← HN.out,List.take_length] at this
    exact this
 ·have z1:(z != 0)=true:=by simpa using h0
  rw [if_neg h0] at HL
  have HG2:Hid (Calls Tryz.prog 134 #[.string S] w fun e w'=>e=.returned (.tuple #[.agg #[.string ⟨#[]⟩,.slice none 0 0,.string ⟨#[]⟩,.int .u64 0,.string ⟨#[]⟩],.int .i64 z])∧Below w.heap.size w w'):=hideIt (HG.out.mono (by
   rintro e w' ⟨c,rfl,h1,h2,h3,h4⟩
   rw [h3 (by rw [HZ.out];exact h0),HZ.out]
   exact ⟨rfl,h4⟩))
  clear HG hz HZ
  go_enter Tryz.func83,Tryz.ntmps83
  go_wp2_with (first | (go_at_call 134;refine HG2.out.mono ?_;rintro e w1 ⟨rfl,hb1⟩))
  go_ret2
  exact (HT.out _ _).2 ⟨.slice none 0 0,by rw [HL.out] <;> rfl,by rw [HL.out];exact LRow.nil _,below2 hb1 (new_below _ _)⟩
set_option maxHeartbeats 3200000 in
set_option maxRecDepth 100000 in
theorem treeLinks_any (L:List UInt8) (w:World) (hL:L.length≤1000000) (hm:MaxAt w) :
  Calls Tryz.prog 82 #[.string (bs L)] w fun e w'=>LkTo w (treeLk L) e w':=by
 obtain ⟨i0,hi0,hz0,hz1,hz2⟩:=info_parts infoL
 have HT:Hid (∀ e w',LkTo w (treeLk L) e w'↔∃ v,e=.returned (.tuple #[v,.int .i64 (dec L).1])∧LRow w' v ((dec L).2.map enLk)∧Below w.heap.size w w'):=hideIt (fun _ _=>Iff.rfl)
 have HD:Hid (Calls Tryz.prog 133 #[.string (bs L)] w fun e w'=>∃ a k,e=.returned (.tuple #[.slice a (dec L).2.length k,.int .i64 (dec L).1])∧k≤maxLen∧(0 < (dec L).2.length→∃ b o,a=some ⟨b,o,none⟩∧ECells w' b o (dec L).2)∧(dec L).2.length≤k∧Below w.heap.size w w'):=hideIt ((decode_any L hL w (by obtain ⟨m,h⟩:=hm;exact ⟨m,h⟩)).mono (by
  rintro e w' ⟨v,rfl,⟨a,k,rfl,h2,h3,h4⟩,h5⟩
  exact ⟨a,k,rfl,h3.1,h4,h2,h5⟩))
 have hn:=dec_len L
 have HE:=hideIt (dec_err L)
 obtain ⟨es,hes⟩:∃ es,(dec L).2=es:=⟨_,rfl⟩
 obtain ⟨z,hz⟩:∃ z,(dec L).1=z:=⟨_,rfl⟩
 rw [hes,hz] at HT HD HE
 rw [hes] at hn
 obtain ⟨S,hS⟩:∃ S,bs L=S:=⟨_,rfl⟩
 rw [hS] at HD ⊢
 obtain ⟨n,hnn⟩:∃ n,es.length=n:=⟨_,rfl⟩
 have HN:=hideIt hnn
 rw [hnn] at HD hn
 clear hes hz hS hnn hm hL
 by_cases h0:z=0
 ·subst h0
  have nI:(n:Int)≤256:=by omega
  go_enter Tryz.func82,Tryz.ntmps82
  go_wp2_with (first | (go_at_call 133;refine HD.out.mono ?_;rintro e w1 ⟨a1,k1,rfl,hm1,hcells,hlc,hb1⟩;have HC:=hideIt hcells;have HB1:=hideIt hb1;clear hcells hb1;unfold maxLen at hm1))
  go_loopw [6,20] (fun v t wr=>∃ i:Nat,i≤n∧t=.int .i64 i∧LOwn wr w1.heap.size 168 v ((es.take i).map enLk)∧Below w1.heap.size w1 wr) (fun _ t _=>n - (intOf t).toNat)
  case atStart=>exact ⟨0,by omega,rfl,.inl ⟨rfl,none,rfl⟩,Below.refl _ _⟩
  case round =>
   obtain ⟨i,hi,rfl,hown,hbl⟩:=hrel
   have HO:=hideIt hown
   have HBL:=hideIt hbl
   clear hown hbl
   by_cases hlt:i < n
   ·have i1:decide ((i:Int) < (n:Int))=true:=decide_eq_true (by omega)
    have i2:(i:Int) < (n:Int):=by omega
    obtain ⟨b,o,hab,hcl⟩:=HC.out (by omega)
    subst hab
    obtain ⟨x,hxi⟩:∃ x,es[i]? = some x:=⟨es[i]'(by rw [HN.out];exact hlt),by simp⟩
    obtain ⟨y0,y1,y2⟩:=(hcl.below HBL.out).2 i x hxi
    have HTK:Hid ((es.take (i + 1)).map enLk=(es.take i).map enLk ++ [enLk x]):=hideIt (by rw [List.take_add_one,hxi];simp)
    have hsz:w1.heap.size≤wr.heap.size:=HBL.out.size
    have HEN:Hid (enLk x=⟨if x.md=3 then 2 else 1,x.ids⟩):=rfl
    obtain ⟨nm,md,ids⟩:=x
    simp only at y0 y1 y2 HEN
    obtain ⟨e0,e1,e2⟩:=three_cells (w:=wr.alloc (.cells #[.string nm,.int .i64 md,.string ids] 167)) (x:=⟨nm,md,ids⟩) (Cb.alloc_at rfl)
    simp only at e0 e1 e2
    have HTN:Hid (∀ (k:Int) (j:Nat) (u:Value),[Value.int .i64 k,.string ids][j]? = some u→((wr.alloc (.cells #[.string nm,.int .i64 md,.string ids] 167)).alloc (.cells #[.int .i64 k,.string ids] 168)).cell? ((⟨wr.heap.size + 1,0,none⟩:Addr).add j)=some u):=hideIt (fun k j u h=>by
     have:=two_new (w:=wr.alloc (.cells #[.string nm,.int .i64 md,.string ids] 167)) ⟨k,ids⟩ 168 j u h
     simpa using this)
    clear hcl hxi
    by_cases hmd:md=3
    ·subst hmd
     rw [if_pos rfl] at HEN
     rw [HEN.out] at HTK
     go_wp2_with (first | (at_builtin;refine append_lk _ rfl _ _ 59 168 rfl i0 Tryz.underlying59 hi0 hz0 hz1 hz2 w1.heap.size _ ((es.take i).map enLk) rfl ((HO.out.below (new_below _ _)).below (new_below _ _)) ⟨wr.heap.size + 1,0,none⟩ ⟨2,ids⟩ rfl (HTN.out 2) (by simp;omega) (by simp;omega) ?_;intro v3 w3 hown3 hb3))
     go_roundw
     case rel =>
      refine ⟨i + 1,by omega,by go_num,.inr ?_,((HBL.out.alloc hsz _).alloc (by simp;omega) _).trans hb3⟩
      rw [HTK.out]
      simpa using hown3
     case measure=>simp [intOf];omega
    ·have m1:(md == 3)=false:=by simpa using hmd
     rw [if_neg hmd] at HEN
     rw [HEN.out] at HTK
     go_wp2_with (first | (at_builtin;refine append_lk _ rfl _ _ 59 168 rfl i0 Tryz.underlying59 hi0 hz0 hz1 hz2 w1.heap.size _ ((es.take i).map enLk) rfl ((HO.out.below (new_below _ _)).below (new_below _ _)) ⟨wr.heap.size + 1,0,none⟩ ⟨1,ids⟩ rfl (HTN.out 1) (by simp;omega) (by simp;omega) ?_;intro v3 w3 hown3 hb3))
     go_roundw
     case rel =>
      refine ⟨i + 1,by omega,by go_num,.inr ?_,((HBL.out.alloc hsz _).alloc (by simp;omega) _).trans hb3⟩
      rw [HTK.out]
      simpa using hown3
     case measure=>simp [intOf];omega
   ·obtain rfl:i=n:=by omega
    have i1:decide ((i:Int) < (i:Int))=false:=decide_eq_false (by omega)
    go_wp2
    go_ret2
    refine (HT.out _ _).2 ⟨_,rfl,?_,below2 HB1.out HBL.out⟩
    have:=HO.out.row
    rw [← HN.out,List.take_length] at this
    exact this
 ·have z1:(z != 0)=true:=by simpa using h0
  obtain rfl:=HE.out h0
  obtain rfl:n=0:=HN.out.symm
  go_enter Tryz.func82,Tryz.ntmps82
  go_wp2_with (first | (go_at_call 133;refine HD.out.mono ?_;rintro e w1 ⟨a1,k1,rfl,hm1,hcells,hlc,hb1⟩;have HB1:=hideIt hb1;clear hcells hb1))
  go_ret2
  exact (HT.out _ _).2 ⟨.slice none 0 0,rfl,LRow.nil _,HB1.out⟩
end Ob
end Go.Proofs.YtogjlepdejonpaaGreatDoor
namespace Go.Proofs.YtogjlepdejonpaaGreatDoor
namespace Ob
open Go.RowKit Go.Shelf
set_option maxHeartbeats 3200000 in
set_option maxRecDepth 100000 in
theorem links_any (L:List UInt8) (w:World) (hL:L.length≤1000000) (hk:Ok w) :
  Calls Tryz.prog 37 #[.string (bs L)] w fun e w'=>LkTo w (links L) e w':=by
 have HT:Hid (∀ e w',LkTo w (links L) e w'↔∃ v,e=.returned (.tuple #[v,.int .i64 (links L).2])∧LRow w' v (links L).1∧Below w.heap.size w w'):=hideIt (fun _ _=>Iff.rfl)
 have HOK:=hideIt hk
 have HS:=hideIt (split_any L hL w hk)
 have hbl:=opn_len L
 have HL:Hid (links L=if (opn L).2.2=0 then (if (opn L).1=2 then treeLk (opn L).2.1 else if (opn L).1=3 then comLk (opn L).2.1 else if (opn L).1=4 then tagLk (opn L).2.1 else ([],0)) else ([],(opn L).2.2)):=rfl
 unfold opV at HS
 obtain ⟨k,hkk⟩:∃ k,(opn L).1=k:=⟨_,rfl⟩
 obtain ⟨b,hb⟩:∃ b,(opn L).2.1=b:=⟨_,rfl⟩
 obtain ⟨z,hz⟩:∃ z,(opn L).2.2=z:=⟨_,rfl⟩
 rw [hkk,hb,hz] at HS HL
 rw [hb] at hbl
 obtain ⟨S,hS⟩:∃ S,bs L=S:=⟨_,rfl⟩
 rw [hS] at HS ⊢
 have H2:=hideIt (fun w h=>treeLinks_any b w hbl h)
 have H3:=hideIt (fun w h=>commitLinks_any b w hbl h)
 have H4:=hideIt (fun w h=>tagLinks_any b w hbl h)
 obtain ⟨Y,hY⟩:∃ S,bs b=S:=⟨_,rfl⟩
 rw [hY] at HS H2 H3 H4
 clear hk hkk hb hz hS hY hbl hL
 by_cases h0:z=0
 ·subst h0
  rw [if_pos rfl] at HL
  by_cases k2:k=2
  ·subst k2
   rw [if_pos rfl] at HL
   go_enter Tryz.func37,Tryz.ntmps37
   go_wp2_with (first
    | (go_at_call 81;refine HS.out.mono ?_;rintro e w1 ⟨rfl,hb1⟩;have HB1:=hideIt hb1;clear hb1)
    | (go_at_call 82;refine (H2.out _ (HOK.out.below HB1.out).max).mono ?_;intro e w2 hlk;obtain ⟨v2,rfl,hr2,hb2⟩:=hlk))
   go_ret2
   exact (HT.out _ _).2 ⟨v2,by rw [HL.out] <;> rfl,by rw [HL.out];exact hr2,below2 HB1.out hb2⟩
  ·have q2:(k == 2)=false:=by simpa using k2
   rw [if_neg k2] at HL
   by_cases k3:k=3
   ·subst k3
    rw [if_pos rfl] at HL
    go_enter Tryz.func37,Tryz.ntmps37
    go_wp2_with (first
     | (go_at_call 81;refine HS.out.mono ?_;rintro e w1 ⟨rfl,hb1⟩;have HB1:=hideIt hb1;clear hb1)
     | (go_at_call 83;refine (H3.out _ (HOK.out.below HB1.out)).mono ?_;intro e w2 hlk;obtain ⟨v2,rfl,hr2,hb2⟩:=hlk))
    go_ret2
    exact (HT.out _ _).2 ⟨v2,by rw [HL.out] <;> rfl,by rw [HL.out];exact hr2,below2 HB1.out hb2⟩
   ·have q3:(k == 3)=false:=by simpa using k3
    rw [if_neg k3] at HL
    by_cases k4:k=4
    ·subst k4
     rw [if_pos rfl] at HL
     go_enter Tryz.func37,Tryz.ntmps37
     go_wp2_with (first
      | (go_at_call 81;refine HS.out.mono ?_;rintro e w1 ⟨rfl,hb1⟩;have HB1:=hideIt hb1;clear hb1)
      | (go_at_call 84;refine (H4.out _ (HOK.out.below HB1.out).max).mono ?_;intro e w2 hlk;obtain ⟨v2,rfl,hr2,hb2⟩:=hlk))
     go_ret2
     exact (HT.out _ _).2 ⟨v2,by rw [HL.out] <;> rfl,by rw [HL.out];exact hr2,below2 HB1.out hb2⟩
    ·have q4:(k == 4)=false:=by simpa using k4
     rw [if_neg k4] at HL
     go_enter Tryz.func37,Tryz.ntmps37
     go_wp2_with (first
      | (go_at_call 81;refine HS.out.mono ?_;rintro e w1 ⟨rfl,hb1⟩;have HB1:=hideIt hb1;clear hb1))
     go_ret2
     exact (HT.out _ _).2 ⟨.slice none 0 0,by rw [HL.out] <;> rfl,by rw [HL.out];exact LRow.nil _,HB1.out⟩
 ·have z1:(z != 0)=true:=by simpa using h0
  rw [if_neg h0] at HL
  go_enter Tryz.func37,Tryz.ntmps37
  go_wp2_with (first
   | (go_at_call 81;refine HS.out.mono ?_;rintro e w1 ⟨rfl,hb1⟩;have HB1:=hideIt hb1;clear hb1))
  go_ret2
  exact (HT.out _ _).2 ⟨.slice none 0 0,by rw [HL.out] <;> rfl,by rw [HL.out];exact LRow.nil _,HB1.out⟩
end Ob
end Go.Proofs.YtogjlepdejonpaaGreatDoor
