/- Objects' paths: plain facts. Objects' paths, walked. Folders made within another one, walked; Open. Open, walked: at a new one, at one that is there, without power. Get, walked. An object's file laid, walked. Put, walked; Links of a blob. The statements' own small functions, walked: blobs, a place, files; Put at a new place; its picture. One object kept at a new place: its pictures, through a fall that keeps nothing. A place with objects kept: what its pictures keep to, and how a Put turns them. Put at a place with objects kept. An object's file: whether it can be read, and its bytes. Put at a place with objects kept, once more: whose bytes the files hold; Put of what is no object. What a file's path says; names cut. The folders of a place, walked. Digits rise as ids do. The ids of all files: plain readings. List of a place, walked. An object is there behind a loss of power: the statements' waking test, walked. Texts as an argument, opened. Twins: of some texts, are two unlike, and of one id: the law's own look, walked. Where there is no power, or no room: the statement's road, walked. The play of LoosePlays: what stands behind each object that is kept. What LoosePlays asks besides: an object's file by the document, texts that are not too long. Objects are kept each in its file, with the document's bytes, once, and are there again, in their order: the statement's road, walked. The law LoosePlays: true, or there are twins: walked whole. -/
import Derived.Test.YtogjlepdejonpaaGreatDoorVcAll2
import Derived.Test.YtogjlepdejonpaaGreatDoorCbPure
import Derived.Test.YtogjlepdejonpaaGreatDoorCbHexw
import Derived.Test.YtogjlepdejonpaaGreatDoorCbRefh
import Derived.Test.YtogjlepdejonpaaGreatDoorOzAll
import Derived.Deep.RegionHeld3
import Derived.Test.YtogjlepdejonpaaGreatDoorLdSpd
import Derived.Test.YtogjlepdejonpaaGreatDoorLdSpq
import Derived.Test.YtogjlepdejonpaaGreatDoorLdPressw
import Derived.Test.YtogjlepdejonpaaGreatDoorCbUnhexw
import Derived.Lib.SplitLaws
import Derived.Lib.ReplaceLaws
import Derived.Maps.AppendAt
import Derived.ProofKit
import Derived.OpenShut
import Derived.Deep.Slices
import Derived.Deep.Fields
import Derived.Lib.SmallJoins
import Derived.BigQuiet
import Derived.Test.YtogjlepdejonpaaGreatDoorLdRefp4
import Derived.Laws.BitsLemmas
import Derived.Maps.StringElems
import Derived.Test.YtogjlepdejonpaaGreatDoorOzAll2
import Derived.Sort.Walk0
import Derived.Laws.Cover1
namespace Go.Proofs.YtogjlepdejonpaaGreatDoor.Lo
open Vc
def objL:List UInt8:=[111,98,106,101,99,116,115]
def incL:List UInt8:=objL ++ 47 :: [105,110,99,111,109,105,110,103]
def objP:ByteArray:=Vc.bs objL
def incP:ByteArray:=Vc.bs incL
def dirL (id:List UInt8):List UInt8:=objL ++ 47 :: Cb.Cd.hexL (id.take 1)
def fileL (id:List UInt8):List UInt8:=dirL id ++ 47 :: Cb.Cd.hexL (id.drop 1)
def dirP (id:List UInt8):ByteArray:=Vc.bs (dirL id)
def fileP (id:List UInt8):ByteArray:=Vc.bs (fileL id)
theorem dig_ok:∀ n,n < 16→okB (Cb.Cd.dig n)=true∧Cb.Cd.dig n≠47∧Cb.Cd.dig n≠46:=by decide
theorem hex_all:∀ l:List UInt8,(Cb.Cd.hexL l).all okB=true∧(47:UInt8) ∉ Cb.Cd.hexL l∧(46:UInt8) ∉ Cb.Cd.hexL l
 | []=>by simp [Cb.Cd.hexL]
 | c :: t=>by
  obtain ⟨h1,h2,h3⟩:=hex_all t
  have hc:c.toNat < 256:=c.toNat_lt
  obtain ⟨a1,a2,a3⟩:=dig_ok (c.toNat / 16) (by omega)
  obtain ⟨b1,b2,b3⟩:=dig_ok (c.toNat % 16) (by omega)
  have e:Cb.Cd.hexL (c :: t)=Cb.Cd.dig (c.toNat / 16) :: Cb.Cd.dig (c.toNat % 16) :: Cb.Cd.hexL t:=rfl
  rw [e]
  refine ⟨by simp only [List.all_cons,a1,b1,h1,Bool.and_self],?_,?_⟩
  ·simp only [List.mem_cons,not_or]
   exact ⟨Ne.symm a2,Ne.symm b2,h2⟩
  ·simp only [List.mem_cons,not_or]
   exact ⟨Ne.symm a3,Ne.symm b3,h3⟩
theorem okSeg_of_no {l:List UInt8} (h0:l≠[]) (h:(46:UInt8) ∉ l):okSeg l=true:=by
 unfold okSeg
 rw [Bool.not_eq_true',Bool.or_eq_false_iff,Bool.or_eq_false_iff]
 refine ⟨⟨by simpa using h0,?_⟩,?_⟩
 ·rw [beq_eq_false_iff_ne]
  intro e
  rw [e] at h
  simp at h
 ·rw [beq_eq_false_iff_ne]
  intro e
  rw [e] at h
  simp at h
theorem obj_seg:objL.all okB=true∧(47:UInt8) ∉ objL∧okSeg objL=true:=by decide
theorem scan_hex (id:List UInt8) (h:id≠[]):scan [] (Cb.Cd.hexL id)=true:=by
 obtain ⟨h1,h2,h3⟩:=hex_all id
 have h0:Cb.Cd.hexL id≠[]:=fun e=>by
  have:=Cb.Cd.hexL_len id
  rw [e] at this
  simp at this
  exact h (List.eq_nil_of_length_eq_zero (by omega))
 rw [scan_none _ [] h2,h1,List.nil_append,okSeg_of_no h0 h3]
 rfl
theorem dir_path {id:List UInt8} (h:id.length=32):pathL (dirL id)=true:=by
 unfold pathL dirL
 rw [scan_some _ _ [] obj_seg.2.1,obj_seg.1,List.nil_append,obj_seg.2.2,scan_hex _ (fun e=>by have h1:(id.take 1).length=0:=(by rw [e];rfl);rw [List.length_take] at h1;omega)]
 have hl:=Cb.Cd.hexL_len (id.take 1)
 simp only [Bool.and_true,decide_eq_true_eq,List.length_append,List.length_cons,hl,List.length_take]
 simp [objL]
 omega
theorem file_path {id:List UInt8} (h:id.length=32):pathL (fileL id)=true:=by
 obtain ⟨h1,h2,h3⟩:=hex_all (id.take 1)
 have h0:Cb.Cd.hexL (id.take 1)≠[]:=fun e=>by
  have:=Cb.Cd.hexL_len (id.take 1)
  rw [e] at this
  simp at this
  omega
 have e:fileL id=objL ++ 47 :: (Cb.Cd.hexL (id.take 1) ++ 47 :: Cb.Cd.hexL (id.drop 1)):=by simp [fileL,dirL]
 unfold pathL
 rw [e,scan_some _ _ [] obj_seg.2.1,obj_seg.1,List.nil_append,obj_seg.2.2,scan_some _ _ [] h2,h1,List.nil_append,okSeg_of_no h0 h3,scan_hex _ (fun e=>by have h1:(id.drop 1).length=0:=(by rw [e];rfl);rw [List.length_drop] at h1;omega)]
 have hl:=Cb.Cd.hexL_len (id.take 1)
 have hl2:=Cb.Cd.hexL_len (id.drop 1)
 simp only [Bool.and_true,decide_eq_true_eq,List.length_append,List.length_cons,hl,hl2,List.length_take,List.length_drop]
 simp [objL]
 omega
theorem obj_path:pathL objL=true:=by decide
theorem inc_path:pathL incL=true:=by decide
theorem getD_at (s:ByteArray) (j:Nat) (h:j < s.size):s.data[j]! = (s.data.toList)[j]'(by rw [Array.length_toList];exact h):=by
 have h':j < s.data.size:=h
 rw [Array.getElem!_eq_getD,Array.getD_eq_getD_getElem?,Array.getElem?_eq_getElem h']
 simp
theorem dir_of (a b:List UInt8) (hb:(47:UInt8) ∉ b):dirOf (Vc.bs (a ++ 47 :: b))=Vc.bs a:=by
 have hsz:(Vc.bs (a ++ 47 :: b)).size=a.length + (b.length + 1):=by rw [Vc.bs_size];simp
 have hl:(Vc.bs (a ++ 47 :: b)).data.toList=a ++ 47 :: b:=Vc.bs_list _
 have hat:∀ j (hj:j < (Vc.bs (a ++ 47 :: b)).size),(Vc.bs (a ++ 47 :: b)).data[j]! = (a ++ 47 :: b)[j]'(by simp;omega):=fun j hj=>by
  rw [getD_at _ j hj]
  simp only [hl]
 have hi:Lib.lastIndexByte (Vc.bs (a ++ 47 :: b)) 47=(a.length:Int):=by
  have h47:((a ++ 47 :: b)[a.length]'(by simp))=47:=by simp
  rcases Lib.lastIndexByte_spec (Vc.bs (a ++ 47 :: b)) 47 with ⟨_,h2⟩ | ⟨i,h1,h2,h3,h4⟩
  ·have:=h2 a.length (by omega)
   rw [hat a.length (by omega),h47] at this
   exact absurd rfl this
  ·rw [h2]
   by_cases hlt:i < a.length
   ·have:=h4 a.length hlt (by omega)
    rw [hat a.length (by omega),h47] at this
    exact absurd rfl this
   ·by_cases he:i=a.length
    ·rw [he]
    ·exfalso
     rw [hat i h1] at h3
     obtain ⟨k,rfl⟩:∃ k,i=a.length + (k + 1):=⟨i - a.length - 1,by omega⟩
     have hlen:k < b.length:=by omega
     have e1:(a ++ 47 :: b)[a.length + (k + 1)]? = b[k]?:=by
      rw [List.getElem?_append_right (by omega),Nat.add_sub_cancel_left,List.getElem?_cons_succ]
     rw [List.getElem?_eq_getElem (by simp;omega),List.getElem?_eq_getElem hlen] at e1
     rw [Option.some.inj e1] at h3
     have h47n:(47:UInt8).toNat=47:=rfl
     have:b[k]'hlen=47:=UInt8.toNat_inj.1 (by rw [h47n];omega)
     exact hb (this ▸ List.getElem_mem hlen)
 unfold dirOf
 rw [hi]
 have:(max (a.length:Int) 0).toNat=a.length:=by omega
 rw [this,← Vc.bs_data (ByteArray.extract _ _ _),ByteArray.data_extract,Array.toList_extract,hl]
 simp [List.extract]
theorem dir_file (id:List UInt8):dirOf (fileP id)=dirP id:=dir_of _ _ (hex_all _).2.1
theorem dir_dir (id:List UInt8):dirOf (dirP id)=objP:=dir_of _ _ (hex_all _).2.1
theorem dir_inc:dirOf incP=objP:=dir_of _ _ (by decide)
theorem dir_obj:dirOf objP=⟨#[]⟩:=by decide +kernel
theorem bsL_inj {a b:List UInt8} (h:Vc.bs a=Vc.bs b):a=b:=by
 have:=congrArg (fun s=>s.data.toList) h
 simpa [Vc.bs_list] using this
theorem hex_inj {a b:List UInt8} (h:Cb.Cd.hexL a=Cb.Cd.hexL b):a=b:=by
 have h1:=Cb.Cd.unhex_hex a
 rw [h,Cb.Cd.unhex_hex b] at h1
 simpa using h1.symm
theorem file_inj {a b:List UInt8} (ha:a.length=32) (hb:b.length=32) (h:fileP a=fileP b):a=b:=by
 have h1:=bsL_inj h
 unfold fileL dirL at h1
 have e1:=Cb.Cd.hexL_len (a.take 1)
 have e2:=Cb.Cd.hexL_len (b.take 1)
 simp only [List.append_assoc,List.cons_append,List.append_cancel_left_eq,List.cons.injEq,true_and] at h1
 obtain ⟨h2,h3⟩:=List.append_inj h1 (by rw [e1,e2];simp [ha,hb])
 simp only [List.cons.injEq,true_and] at h3
 rw [← List.take_append_drop 1 a,← List.take_append_drop 1 b,hex_inj h2,hex_inj h3]
theorem file_len {id:List UInt8} (h:id.length=32):(fileL id).length=73:=by
 have hl:=Cb.Cd.hexL_len (id.take 1)
 have hl2:=Cb.Cd.hexL_len (id.drop 1)
 simp only [fileL,dirL,List.length_append,List.length_cons,hl,hl2,List.length_take,List.length_drop]
 simp [objL]
 omega
theorem dir_len {id:List UInt8} (h:id.length=32):(dirL id).length=10:=by
 have hl:=Cb.Cd.hexL_len (id.take 1)
 simp only [dirL,List.length_append,List.length_cons,hl,List.length_take]
 simp [objL]
 omega
theorem ne_len {a b:List UInt8} (h:a.length≠b.length):Vc.bs a≠Vc.bs b:=fun e=>h (by rw [bsL_inj e])
end Go.Proofs.YtogjlepdejonpaaGreatDoor.Lo
namespace Go.Proofs.YtogjlepdejonpaaGreatDoor.Lo
open Vc Go.RowKit Go.Shelf
def Okn (n0:Nat) (w:World):Prop:=∃ W:World,Ob.Ok W∧W.heap.size≤n0∧Below W.heap.size W w
theorem Okn.ok {n0:Nat} {w:World} (h:Okn n0 w):Ob.Ok w:=by
 obtain ⟨W,h1,_,h3⟩:=h
 exact h1.below h3
theorem Okn.step {n0:Nat} {w w':World} (h:Okn n0 w) (hb:Below n0 w w'):Okn n0 w':=by
 obtain ⟨W,h1,h2,h3⟩:=h
 exact ⟨W,h1,h2,h3.trans (hb.mono h2)⟩
theorem cat_bs (a b:List UInt8):Vc.bs a ++ Vc.bs b=Vc.bs (a ++ b):=by
 rw [← Vc.bs_data (Vc.bs a ++ Vc.bs b),ByteArray.data_append,Array.toList_append,Vc.bs_list,Vc.bs_list]
theorem hex_c (l:List UInt8) (hl:l.length≤400) (w:World):Calls Tryz.prog 57 #[.string (Vc.bs l)] w fun e w'=>e=.returned (.string (Vc.bs (Cb.Cd.hexL l)))∧Below w.heap.size w w':=by
 have:=Cb.hex_any (Vc.bs l) w (by rw [Vc.bs_size];exact hl)
 rw [Vc.bs_list] at this
 exact this
theorem ext_bs (l:List UInt8) (a b:Nat):(Vc.bs l).extract a b=Vc.bs (l.extract a b):=by
 rw [← Vc.bs_data (ByteArray.extract _ _ _),ByteArray.data_extract,Array.toList_extract,Vc.bs_list]
set_option maxHeartbeats 800000 in
set_option maxRecDepth 100000 in
theorem folder_any (id:List UInt8) (h:id.length=32) (w:World):Calls Tryz.prog 56 #[.string (Vc.bs id)] w fun e w'=>e=.returned (.string (dirP id))∧Below w.heap.size w w':=by
 have e1:(Vc.bs id).extract 0 1=Vc.bs (id.take 1):=by rw [ext_bs];simp [List.extract]
 have HX:=hideIt (hex_c (id.take 1) (by simp;omega) w)
 have HE:Hid (dirP id=⟨#[111,98,106,101,99,116,115,47]⟩ ++ Vc.bs (Cb.Cd.hexL (id.take 1))):=hideIt (by
  show Vc.bs _=Vc.bs [111,98,106,101,99,116,115,47] ++ _
  rw [cat_bs]
  rfl)
 have hs:(Vc.bs id).size=32:=by rw [Vc.bs_size,h]
 have hs2:((Vc.bs id).size:Int)=32:=by omega
 have hl:(Cb.Cd.hexL (id.take 1)).length=2:=by rw [Cb.Cd.hexL_len];simp;omega
 have hl2:(Vc.bs (Cb.Cd.hexL (id.take 1))).size=2:=by rw [Vc.bs_size,hl]
 rw [HE.out]
 go_enter Tryz.func56,Tryz.ntmps56
 go_wp2_with (first | (go_at_call 57;refine HX.out.mono ?_;rintro e w1 ⟨rfl,hb1⟩))
 go_ret
 exact ⟨rfl,hb1⟩
set_option maxHeartbeats 800000 in
set_option maxRecDepth 100000 in
theorem path_any (id:List UInt8) (h:id.length=32) (w:World):Calls Tryz.prog 24 #[.string (Vc.bs id)] w fun e w'=>e=.returned (.string (fileP id))∧Below w.heap.size w w':=by
 have hs:(Vc.bs id).size=32:=by rw [Vc.bs_size,h]
 have hs2:((Vc.bs id).size:Int)=32:=by omega
 have e1:(Vc.bs id).extract 1 32=Vc.bs (id.drop 1):=by rw [ext_bs];simp [List.extract];rw [List.take_of_length_le (by simp;omega)]
 have HX:=hideIt (fun w=>hex_c (id.drop 1) (by simp;omega) w)
 have HD:=hideIt (fun w=>folder_any id h w)
 have HE:Hid (fileP id=dirP id ++ ⟨#[47]⟩ ++ Vc.bs (Cb.Cd.hexL (id.drop 1))):=hideIt (by
  show Vc.bs _=Vc.bs (dirL id) ++ Vc.bs [47] ++ _
  rw [cat_bs,cat_bs]
  simp [fileL])
 have hl:(Cb.Cd.hexL (id.drop 1)).length=62:=by rw [Cb.Cd.hexL_len];simp;omega
 have hl2:(Vc.bs (Cb.Cd.hexL (id.drop 1))).size=62:=by rw [Vc.bs_size,hl]
 have hl3:(dirP id).size=10:=by rw [dirP,Vc.bs_size,dir_len h]
 rw [HE.out]
 obtain ⟨I,hI⟩:∃ I,Vc.bs id=I:=⟨_,rfl⟩
 obtain ⟨T,hT⟩:∃ T,Vc.bs (id.drop 1)=T:=⟨_,rfl⟩
 obtain ⟨d,hd⟩:∃ d,dirP id=d:=⟨_,rfl⟩
 obtain ⟨x,hx⟩:∃ x,Vc.bs (Cb.Cd.hexL (id.drop 1))=x:=⟨_,rfl⟩
 rw [hI] at hs hs2 e1 HD ⊢
 rw [hT] at e1 HX
 rw [hd] at HD hl3 ⊢
 rw [hx] at HX hl2 ⊢
 clear hI hT hd hx HE hl h
 have HB0:Hid (Below w.heap.size w w.drew):=hideIt (Below.refl _ _).drew
 go_enter Tryz.func24,Tryz.ntmps24
 go_wp2
 go_region_held3 (fun X=>Below w.heap.size w X) (first | exact HB0.out | assumption | (exact Ob.below2 (by assumption) hb1) | (exact Ob.below2 (by assumption) hb2)) (first | (go_at_call 56;refine (HD.out _).mono ?_;rintro e w1 ⟨rfl,hb1⟩) | (go_at_call 57;refine (HX.out _).mono ?_;rintro e w2 ⟨rfl,hb2⟩))
 go_wp2
 go_ret
 exact ⟨rfl,by assumption⟩
structure St (pl:Value) (n0:Nat) (A:Nat→Prop) (b:Nat) (w:World) (fb:Nat) (S:Fs):Prop where
 rep:Rep pl n0 A b w fb S
 ok:Okn n0 w
def StTo (pl:Value) (n0:Nat) (A:Nat→Prop) (b:Nat) (w:World) (fb:Nat) (S:Fs) (w':World):Prop:=∃ A2:Nat→Prop,(∀ g,A2 g→A g∨w.heap.size≤g)∧St pl n0 A2 b w' fb S∧Out A w w'
section
variable {pl:Value} {n0:Nat} {A A2:Nat→Prop} {b b':Nat} {w w' w1:World} {fb:Nat} {S S':Fs}
theorem St.to (h:St pl n0 A b w fb S) (hr:RepTo pl n0 A b' w fb S' w'):StTo pl n0 A b' w fb S' w':=by
 obtain ⟨A3,h1,h2,h3⟩:=hr
 exact ⟨A3,h1,⟨h2,h.ok.step (h3.below h.rep.nw h.rep.lo)⟩,h3⟩
theorem St.kept (h:St pl n0 A b w fb S) (hk:Kept [] w w'):St pl n0 A b w' fb S:=⟨h.rep.keep hk,h.ok.step ((Out.kept (A:=A) hk).below h.rep.nw h.rep.lo)⟩
theorem StTo.step (hA:∀ g,A2 g→A g∨w.heap.size≤g) (hO:Out A w w1) (k:StTo pl n0 A2 b w1 fb S w'):StTo pl n0 A b w fb S w':=by
 obtain ⟨A3,k1,k2,k3⟩:=k
 refine ⟨A3,fun g hg=>?_,k2,hO.trans k3 hA⟩
 rcases k1 g hg with e | e
 ·exact hA g e
 ·exact .inr (Nat.le_trans hO.size e)
theorem StTo.kept (h:St pl n0 A b w fb S) (hk:Kept [] w w'):StTo pl n0 A b w fb S w':=⟨A,fun _ hg=>.inl hg,h.kept hk,Out.kept hk⟩
end
end Go.Proofs.YtogjlepdejonpaaGreatDoor.Lo
namespace Go.Proofs.YtogjlepdejonpaaGreatDoor.Lo
open Vc Go.RowKit Go.Shelf
abbrev P0:Value:=.slice none 0 0
section
variable {n0:Nat} {A:Nat→Prop} {b:Nat} {w w':World} {fb:Nat} {S:Fs}
set_option maxHeartbeats 800000 in
set_option maxRecDepth 100000 in
theorem mf_there (h:St P0 n0 A b w fb S) (q p:ByteArray) (hp:p.size≤140737488355328) (hE:S.syE p=31) :
  Calls Tryz.prog 67 #[.pointer (some ⟨fb,0,none⟩),.string q,.string p] w fun e w'=>e=.returned (.int .i64 0)∧Kept [] w w':=by
 have HR:Hid (Calls Tryz.prog 33 #[.pointer (some ⟨fb,0,none⟩),.string p] w fun e w'=>e=.returned (.tuple #[.string ⟨#[]⟩,.int .i64 31])∧Kept [] w w'):=hideIt ((read_rep h.rep (calm_nil _ _) p hp).mono fun e w' ⟨hk,hr⟩=>by
  rcases hr with ⟨_,he⟩ | ⟨h0,_⟩
  ·rw [hE] at he;exact ⟨he,hk⟩
  ·rw [hE] at h0;cases h0)
 clear h hE
 go_enter Tryz.func67,Tryz.ntmps67
 go_wp2_with (first | (go_at_call 33;refine HR.out.mono ?_;rintro e w1 ⟨rfl,hk1⟩))
 go_ret
 exact ⟨rfl,hk1⟩
set_option maxHeartbeats 800000 in
set_option maxRecDepth 100000 in
theorem mf_made (h:St P0 n0 A b w fb S) (hb:b < 890) (q p:ByteArray) (hq:q.size≤140737488355328) (hp:p.size≤140737488355328) (hE:S.syE p≠31) (hE0:S.syE p≠0) (hM:S.mkE p=0) (hN:(S.enact ⟨0,p,⟨#[]⟩,none⟩).nfE q=0) :
  Calls Tryz.prog 67 #[.pointer (some ⟨fb,0,none⟩),.string q,.string p] w fun e w'=>e=.returned (.int .i64 0)∧StTo P0 n0 A (b + 2) w fb ((S.enact ⟨0,p,⟨#[]⟩,none⟩).syncDir q) w':=by
 obtain ⟨E,hEE⟩:∃ E,S.syE p=E:=⟨_,rfl⟩
 rw [hEE] at hE hE0
 have x1:(E == 31)=false:=by rw [beq_eq_false_iff_ne];exact hE
 have HR:Hid (Calls Tryz.prog 33 #[.pointer (some ⟨fb,0,none⟩),.string p] w fun e w'=>e=.returned (.tuple #[.string ⟨#[]⟩,.int .i64 E])∧St P0 n0 A b w' fb S∧Out A w w'):=hideIt ((read_rep h.rep (calm_nil _ _) p hp).mono fun e w' ⟨hk,hr⟩=>by
  rcases hr with ⟨_,he⟩ | ⟨h0,_⟩
  ·rw [hEE] at he;exact ⟨he,h.kept hk,Out.kept hk⟩
  ·rw [hEE] at h0;exact absurd h0 hE0)
 have HM:Hid (∀ X,St P0 n0 A b X fb S→Out A w X→Calls Tryz.prog 117 #[.pointer (some ⟨fb,0,none⟩),.string p] X fun e w'=>e=.returned (.int .i64 0)∧StTo P0 n0 A (b + 1) w fb (S.enact ⟨0,p,⟨#[]⟩,none⟩) w'):=hideIt (fun X hX hO=>(mkdir_rep hX.rep (by omega) (calm_nil _ _) p hp).mono fun e w' ⟨he,hr⟩=>by
  rw [hM] at he
  rcases hr with ⟨h0,_⟩ | ⟨_,S',rfl,hR⟩
  ·exact absurd hM h0
  ·exact ⟨he,StTo.step (fun _ hg=>.inl hg) hO (hX.to hR)⟩)
 have HS:Hid (∀ X,StTo P0 n0 A (b + 1) w fb (S.enact ⟨0,p,⟨#[]⟩,none⟩) X→Calls Tryz.prog 58 #[.pointer (some ⟨fb,0,none⟩),.string q] X fun e w'=>e=.returned (.int .i64 0)∧StTo P0 n0 A (b + 2) w fb ((S.enact ⟨0,p,⟨#[]⟩,none⟩).syncDir q) w'):=hideIt (fun X ⟨A2,k1,k2,k3⟩=>(syncDir_rep k2.rep (by omega) (calm_nil _ _) q hq).mono fun e w' ⟨he,hr⟩=>by
  rw [hN] at he
  rcases hr with ⟨h0,_⟩ | ⟨_,S',rfl,hR⟩
  ·exact absurd hN h0
  ·exact ⟨he,StTo.step k1 k3 (k2.to hR)⟩)
 clear h hE hE0 hM hN hEE
 go_enter Tryz.func67,Tryz.ntmps67
 go_wp2_with (first | (go_at_call 33;refine HR.out.mono ?_;rintro e w1 ⟨rfl,hs1,ho1⟩) | (go_at_call 117;refine (HM.out _ hs1 ho1).mono ?_;rintro e w2 ⟨rfl,hs2⟩) | (go_at_call 58;refine (HS.out _ hs2).mono ?_;rintro e w3 ⟨rfl,hs3⟩))
 go_ret
 exact ⟨rfl,hs3⟩
end
end Go.Proofs.YtogjlepdejonpaaGreatDoor.Lo
namespace Go.Proofs.YtogjlepdejonpaaGreatDoor.Lo
open Vc Go.RowKit Go.Shelf
def baseN:Nm:=fun q=>if q=objP then some none else none
def baseS (room:Nat):Fs:=⟨baseN,baseN,[],fun _=>⟨⟨#[]⟩,⟨#[]⟩⟩,0,0,room,3⟩
theorem objP_size:objP.size=7:=by decide +kernel
theorem incP_size:incP.size=16:=by decide +kernel
theorem obj_ne_inc:objP≠incP:=ne_len (by decide)
theorem doN_comes {n:Nm} {p:ByteArray} {f:Option Nat} {t:ByteArray} (h1:n p=none) (h2:isDir n (dirOf p)=true):doN n ⟨0,p,t,f⟩=fun q=>if q=p then some f else n q:=by
 unfold doN
 rw [if_pos rfl,if_pos ⟨h1,h2⟩]
theorem do_obj:doN (fun _=>none) ⟨0,objP,⟨#[]⟩,none⟩=baseN:=by
 rw [doN_comes rfl (by rw [dir_obj];rfl)]
 rfl
theorem in_obj_root:inP ⟨#[]⟩ ⟨0,objP,⟨#[]⟩,none⟩=true:=by
 unfold inP inB
 rw [show dirOf (⟨0,objP,⟨#[]⟩,none⟩:Pa).p=⟨#[]⟩ from dir_obj]
 simp
theorem open1 (room:Nat):((noFs room).enact ⟨0,objP,⟨#[]⟩,none⟩).syncDir ⟨#[]⟩=⟨baseN,baseN,[],fun _=>⟨⟨#[]⟩,⟨#[]⟩⟩,0,0,room,2⟩:=by
 unfold Fs.syncDir Fs.enact
 simp only [noFs,List.nil_append,do_obj]
 simp [in_obj_root,do_obj]
theorem toL_eq (a b:ByteArray):(a.toList == b.toList)=decide (a=b):=by
 by_cases h:a=b
 ·subst h;simp
 ·rw [decide_eq_false h,beq_eq_false_iff_ne]
  intro e
  rw [ByteArray.toList_eq,ByteArray.toList_eq] at e
  exact h (ba_eq.2 e)
section
variable {n0:Nat} {A:Nat→Prop} {b:Nat} {w w':World} {fb room:Nat} {S:Fs}
theorem nf_of {q:ByteArray} (hq:pathL q.data.toList=true) (hd:S.now q=some none):S.nfE q=0:=by
 unfold Fs.nfE
 split
 ·rfl
 ·have:isDir S.now q=true:=by unfold isDir;rw [hd];simp
  rw [this]
  rfl
theorem nf_root:S.nfE ⟨#[]⟩=0:=rfl
theorem sy_dir {q:ByteArray} (hq:pathL q.data.toList=true) (hd:S.now q=some none):S.syE q=31:=by
 unfold Fs.syE pvN
 rw [if_pos hq,hd]
 rfl
theorem sy_none {q:ByteArray} (hq:pathL q.data.toList=true) (hd:S.now q=none):S.syE q=2:=by
 unfold Fs.syE
 rw [if_pos hq,hd]
 rfl
theorem rm_none {q:ByteArray} (hq:pathL q.data.toList=true) (hd:S.now q=none):S.rmE q=2:=by
 unfold Fs.rmE
 rw [if_pos hq,hd]
 rfl
theorem objP_path:pathL objP.data.toList=true:=by rw [objP,Vc.bs_list];exact obj_path
theorem incP_path:pathL incP.data.toList=true:=by rw [incP,Vc.bs_list];exact inc_path
set_option maxHeartbeats 800000 in
set_option maxRecDepth 100000 in
theorem mf_fresh (h:NewAt w fb room) (ho:Okn n0 w) (hr:room≤1000000000000000) (hn:0 < n0) (hf0:n0≤fb) :
  Calls Tryz.prog 67 #[.pointer (some ⟨fb,0,none⟩),.string ⟨#[]⟩,.string objP] w fun e w'=>e=.returned (.int .i64 0)∧StTo P0 n0 (fun g=>g=fb) 2 w fb ⟨baseN,baseN,[],fun _=>⟨⟨#[]⟩,⟨#[]⟩⟩,0,0,room,2⟩ w':=by
 have hlt:=block_lt h
 have hsz:objP.size≤140737488355328:=by rw [objP_size];decide
 have HR:Hid (Calls Tryz.prog 33 #[.pointer (some ⟨fb,0,none⟩),.string objP] w fun e w'=>e=.returned (.tuple #[.string ⟨#[]⟩,.int .i64 2])∧Kept [] w w'):=hideIt (read_fresh h ho.ok.max objP hsz objP_path)
 have HM:Hid (∀ X,Kept [] w X→Calls Tryz.prog 117 #[.pointer (some ⟨fb,0,none⟩),.string objP] X fun e w'=>e=.returned (.int .i64 0)∧StTo P0 n0 (fun g=>g=fb) 1 w fb ((noFs room).enact ⟨0,objP,⟨#[]⟩,none⟩) w'):=hideIt (fun X hX=>by
  have hb:Below n0 w X:=(Out.kept (A:=fun g=>g=fb) hX).below (by omega) (fun g hg=>by omega)
  have ho':=ho.step hb
  refine (mkdir_fresh (n0:=n0) (hX.fs h (by simp)) ho'.ok.max hr hn hf0 objP hsz objP_path (by rw [dir_obj])).mono fun e w' ⟨he,A2,k1,k2,k3⟩=>⟨he,?_⟩
  have h1:=hX.size
  exact StTo.step (A2:=fun g=>g=fb) (fun g hg=>.inl hg) (Out.kept hX) ⟨A2,k1,⟨k2,ho'.step (k3.below (by omega) (fun g hg=>by omega))⟩,k3⟩)
 have HS:Hid (∀ X,StTo P0 n0 (fun g=>g=fb) 1 w fb ((noFs room).enact ⟨0,objP,⟨#[]⟩,none⟩) X→Calls Tryz.prog 58 #[.pointer (some ⟨fb,0,none⟩),.string ⟨#[]⟩] X fun e w'=>e=.returned (.int .i64 0)∧StTo P0 n0 (fun g=>g=fb) 2 w fb ⟨baseN,baseN,[],fun _=>⟨⟨#[]⟩,⟨#[]⟩⟩,0,0,room,2⟩ w'):=hideIt (fun X ⟨A2,k1,k2,k3⟩=>(syncDir_rep k2.rep (by omega) (calm_nil _ _) ⟨#[]⟩ (by decide)).mono fun e w' ⟨he,hr⟩=>by
  rw [nf_root] at he
  rcases hr with ⟨h0,_⟩ | ⟨_,S',rfl,hR⟩
  ·exact absurd nf_root h0
  ·rw [open1] at hR
   exact ⟨he,StTo.step k1 k3 (k2.to hR)⟩)
 clear h ho
 generalize objP=op at HR HM HS ⊢
 go_enter Tryz.func67,Tryz.ntmps67
 go_wp2_with (first | (go_at_call 33;refine HR.out.mono ?_;rintro e w1 ⟨rfl,hs1⟩) | (go_at_call 117;refine (HM.out _ hs1).mono ?_;rintro e w2 ⟨rfl,hs2⟩) | (go_at_call 58;refine (HS.out _ hs2).mono ?_;rintro e w3 ⟨rfl,hs3⟩))
 go_ret
 exact ⟨rfl,hs3⟩
theorem open_tail (h:St P0 n0 A b w fb S) (hb:b < 890) (hobj:S.now objP=some none) (hinc:S.now incP=none) :
  (Calls Tryz.prog 55 #[.pointer (some ⟨fb,0,none⟩),.string incP] w fun e w'=>e=.returned (.int .i64 2)∧Kept [] w w') ∧
  ∀ X,Kept [] w X→Calls Tryz.prog 58 #[.pointer (some ⟨fb,0,none⟩),.string objP] X fun e w'=>e=.returned (.int .i64 0)∧StTo P0 n0 A (b + 1) w fb (S.syncDir objP) w':=by
 have e2:=rm_none incP_path hinc
 have e0:S.nfE objP=0:=nf_of objP_path hobj
 refine ⟨(remove_rep h.rep (by omega) (calm_nil _ _) incP (by rw [incP_size];decide)).mono fun e w' ⟨he,hr⟩=>?_,fun X hX=>(syncDir_rep (h.kept hX).rep (by omega) (calm_nil _ _) objP (by rw [objP_size];decide)).mono fun e w' ⟨he,hr⟩=>?_⟩
 ·rw [e2] at he
  rcases hr with ⟨_,hk⟩ | ⟨h0,_⟩
  ·exact ⟨he,hk⟩
  ·rw [e2] at h0;cases h0
 ·rw [e0] at he
  rcases hr with ⟨h0,_⟩ | ⟨_,S',rfl,hR⟩
  ·exact absurd e0 h0
  ·exact ⟨he,StTo.step (fun _ hg=>.inl hg) (Out.kept hX) ((h.kept hX).to hR)⟩
set_option maxHeartbeats 800000 in
set_option maxRecDepth 100000 in
theorem open_fresh (h:NewAt w fb room) (ho:Okn n0 w) (hr:room≤1000000000000000) (hn:0 < n0) (hf0:n0≤fb) :
  Calls Tryz.prog 30 #[.pointer (some ⟨fb,0,none⟩)] w fun e w'=>e=.returned (.int .i64 0)∧StTo P0 n0 (fun g=>g=fb) 3 w fb (baseS room) w':=by
 have HM:=hideIt (mf_fresh h ho hr hn hf0)
 have HT:Hid (∀ X,StTo P0 n0 (fun g=>g=fb) 2 w fb ⟨baseN,baseN,[],fun _=>⟨⟨#[]⟩,⟨#[]⟩⟩,0,0,room,2⟩ X→(Calls Tryz.prog 55 #[.pointer (some ⟨fb,0,none⟩),.string incP] X fun e w'=>e=.returned (.int .i64 2)∧Kept [] X w') ∧
  ∀ Y,Kept [] X Y→Calls Tryz.prog 58 #[.pointer (some ⟨fb,0,none⟩),.string objP] Y fun e w'=>e=.returned (.int .i64 0)∧StTo P0 n0 (fun g=>g=fb) 3 w fb (baseS room) w'):=hideIt (fun X ⟨A2,k1,k2,k3⟩=>by
  obtain ⟨t1,t2⟩:=open_tail k2 (by omega) (show baseN objP=some none by simp [baseN]) (show baseN incP=none by simp [baseN,Ne.symm obj_ne_inc])
  exact ⟨t1,fun Y hY=>(t2 Y hY).mono fun e w' ⟨he,hs⟩=>⟨he,StTo.step k1 k3 hs⟩⟩)
 clear h ho
 have ei:(⟨#[111,98,106,101,99,116,115,47,105,110,99,111,109,105,110,103]⟩:ByteArray)=incP:=by decide +kernel
 have eo:(⟨#[111,98,106,101,99,116,115]⟩:ByteArray)=objP:=by decide +kernel
 generalize incP=ip at HT ei
 generalize objP=op at HM HT eo
 subst ei eo
 go_enter Tryz.func30,Tryz.ntmps30
 go_wp2_with (first | (go_at_call 67;refine HM.out.mono ?_;rintro e w1 ⟨rfl,hs1⟩;obtain ⟨t1,t2⟩:=HT.out w1 hs1;have T1:=hideIt t1;have T2:=hideIt t2;clear t1 t2) | (go_at_call 55;refine T1.out.mono ?_;rintro e w2 ⟨rfl,hk2⟩) | (go_at_call 58;refine (T2.out _ hk2).mono ?_;rintro e w3 ⟨rfl,hs3⟩))
 go_ret
 exact ⟨rfl,hs3⟩
set_option maxHeartbeats 800000 in
set_option maxRecDepth 100000 in
theorem open_there (h:St P0 n0 A b w fb S) (hb:b < 880) (hobj:S.now objP=some none) (hinc:S.now incP=none) :
  Calls Tryz.prog 30 #[.pointer (some ⟨fb,0,none⟩)] w fun e w'=>e=.returned (.int .i64 0)∧StTo P0 n0 A (b + 1) w fb (S.syncDir objP) w':=by
 have HM:=hideIt (mf_there h ⟨#[]⟩ objP (by rw [objP_size];decide) (sy_dir objP_path hobj))
 have HT:Hid (∀ X,Kept [] w X→(Calls Tryz.prog 55 #[.pointer (some ⟨fb,0,none⟩),.string incP] X fun e w'=>e=.returned (.int .i64 2)∧Kept [] X w') ∧
  ∀ Y,Kept [] X Y→Calls Tryz.prog 58 #[.pointer (some ⟨fb,0,none⟩),.string objP] Y fun e w'=>e=.returned (.int .i64 0)∧StTo P0 n0 A (b + 1) w fb (S.syncDir objP) w'):=hideIt (fun X hX=>by
  obtain ⟨t1,t2⟩:=open_tail (h.kept hX) (by omega) hobj hinc
  exact ⟨t1,fun Y hY=>(t2 Y hY).mono fun e w' ⟨he,hs⟩=>⟨he,StTo.step (fun _ hg=>.inl hg) (Out.kept hX) hs⟩⟩)
 clear h hobj hinc
 have ei:(⟨#[111,98,106,101,99,116,115,47,105,110,99,111,109,105,110,103]⟩:ByteArray)=incP:=by decide +kernel
 have eo:(⟨#[111,98,106,101,99,116,115]⟩:ByteArray)=objP:=by decide +kernel
 generalize S.syncDir objP=S2 at HT ⊢
 generalize incP=ip at HT ei
 generalize objP=op at HM HT eo
 subst ei eo
 go_enter Tryz.func30,Tryz.ntmps30
 go_wp2_with (first | (go_at_call 67;refine HM.out.mono ?_;rintro e w1 ⟨rfl,hs1⟩;obtain ⟨t1,t2⟩:=HT.out w1 hs1;have T1:=hideIt t1;have T2:=hideIt t2;clear t1 t2) | (go_at_call 55;refine T1.out.mono ?_;rintro e w2 ⟨rfl,hk2⟩) | (go_at_call 58;refine (T2.out _ hk2).mono ?_;rintro e w3 ⟨rfl,hs3⟩))
 go_ret
 exact ⟨rfl,hs3⟩
end
end Go.Proofs.YtogjlepdejonpaaGreatDoor.Lo
namespace Go.Proofs.YtogjlepdejonpaaGreatDoor.Lo
open Vc Go.RowKit Go.Shelf
theorem fin_len {n:Nat} {T L:List UInt8} (h:T.length≤n):(Ld.Lz.fin T L).2.length≤n:=by
 unfold Ld.Lz.fin
 split
 ·exact h
 ·exact Nat.zero_le _
theorem spF_len (n:Nat):∀ (f:Nat) (T L:List UInt8),T.length≤n→(Ld.Lz.spF Ld.Lz.aga n f T L).2.length≤n
 | 0,_,_,_=>Nat.zero_le _
 | f + 1,T,L,h=>by
  rw [Ld.Lz.spF]
  split
  ·rename_i hlt
   split
   ·exact Nat.zero_le _
   ·rename_i h1
    have h1':(Ld.Lz.alo (n - T.length) T L).1=0:=by simpa using h1
    have ha:=Ld.Lz.alo_len h1'
    split
    ·rename_i h2
     exact fin_len (by omega)
    ·split
     ·exact Nat.zero_le _
     ·rename_i h3
      have h3':(Ld.Lz.aga (n - (Ld.Lz.alo (n - T.length) T L).2.1.length) (Ld.Lz.alo (n - T.length) T L).2.1 (Ld.Lz.alo (n - T.length) T L).2.2).1=0:=by simpa using h3
      have hg:=Ld.Lz.aga_len h3'
      exact spF_len n f _ _ (by omega)
  ·exact fin_len h
theorem sp_len (p:List UInt8):(Ld.Lz.spP p 1048576).2.length≤1048576:=by
 unfold Ld.Lz.spP Ld.Lz.spA
 split
 ·exact Nat.zero_le _
 ·rename_i h1
  split
  ·exact Nat.zero_le _
  ·rename_i h2
   exact Nat.le_trans (spF_len _ _ _ _ (Nat.zero_le _)) (by omega)
theorem spread_c (p:ByteArray) (w:World) (hp:p.size≤100000000):Calls Tryz.prog 49 #[.string p,.int .i64 1048576] w fun e w'=>e=.returned (.tuple #[.string (Vc.bs (Ld.Lz.spP p.data.toList 1048576).2),.int .i64 ((Ld.Lz.spP p.data.toList 1048576).1:Int)])∧Below w.heap.size w w':=by
 have:=Ld.spread_gen p.data.toList 1048576 w (by rw [Vc.str_len];exact hp)
 rw [show Cb.bs p.data.toList=p from Vc.bs_data p] at this
 exact this
def getR (p:ByteArray) (id:List UInt8):Option (List UInt8):=if (Ld.Lz.spP p.data.toList 1048576).1=0∧(Sa.Sha.sha (Ld.Lz.spP p.data.toList 1048576).2)=Vc.bs id then some (Ld.Lz.spP p.data.toList 1048576).2 else none
def getV:Option (List UInt8)→Value
 | some r=>.tuple #[.string (Vc.bs r),.int .i64 0]
 | none=>.tuple #[.string ⟨#[]⟩,.int .i64 80]
theorem kept_below {w w1 w2:World} (h:Kept [] w w1) (k:Below w1.heap.size w1 w2):Kept [] w w2:=(h.trans (Kept.of_below k)).sub (by simp)
theorem below_kept {w w1 w2:World} (h:Below w.heap.size w w1) (k:Kept [] w1 w2):Kept [] w w2:=((Kept.of_below h).trans k).sub (by simp)
theorem fileP_size {id:List UInt8} (h:id.length=32):(fileP id).size=73:=by rw [fileP,Vc.bs_size,file_len h]
theorem fileP_path {id:List UInt8} (h:id.length=32):pathL (fileP id).data.toList=true:=by rw [fileP,Vc.bs_list];exact file_path h
theorem dirP_size {id:List UInt8} (h:id.length=32):(dirP id).size=10:=by rw [dirP,Vc.bs_size,dir_len h]
theorem dirP_path {id:List UInt8} (h:id.length=32):pathL (dirP id).data.toList=true:=by rw [dirP,Vc.bs_list];exact dir_path h
section
variable {pl:Value} {n0:Nat} {A:Nat→Prop} {b:Nat} {w w':World} {fb room:Nat} {S:Fs}
theorem sy_file {q:ByteArray} {x:Nat} (hq:pathL q.data.toList=true) (hd:S.now q=some (some x)):S.syE q=0:=by
 unfold Fs.syE pvN
 rw [if_pos hq,hd]
 rfl
set_option maxHeartbeats 800000 in
set_option maxRecDepth 100000 in
theorem get_err (id:List UInt8) (h:id.length=32) (E:Int) (hE:E=2∨E=7) (HR:∀ X,Kept [] w X→Calls Tryz.prog 33 #[.pointer (some ⟨fb,0,none⟩),.string (fileP id)] X fun e w'=>e=.returned (.tuple #[.string ⟨#[]⟩,.int .i64 E])∧Kept [] X w') :
  Calls Tryz.prog 19 #[.pointer (some ⟨fb,0,none⟩),.string (Vc.bs id)] w fun e w'=>e=.returned (.tuple #[.string ⟨#[]⟩,.int .i64 E])∧Kept [] w w':=by
 have HP:=hideIt (path_any id h w)
 have HRD:=hideIt HR
 clear HR h
 generalize fileP id=q at HP HRD
 generalize Vc.bs id=i at HP ⊢
 rcases hE with rfl | rfl
 ·go_enter Tryz.func19,Tryz.ntmps19
  go_wp2_with (first | (go_at_call 24;refine HP.out.mono ?_;rintro e w1 ⟨rfl,hb1⟩) | (go_at_call 33;refine (HRD.out _ (Kept.of_below hb1)).mono ?_;rintro e w2 ⟨rfl,hk2⟩))
  go_ret2
  exact ⟨rfl,below_kept hb1 hk2⟩
 ·go_enter Tryz.func19,Tryz.ntmps19
  go_wp2_with (first | (go_at_call 24;refine HP.out.mono ?_;rintro e w1 ⟨rfl,hb1⟩) | (go_at_call 33;refine (HRD.out _ (Kept.of_below hb1)).mono ?_;rintro e w2 ⟨rfl,hk2⟩))
  go_ret2
  exact ⟨rfl,below_kept hb1 hk2⟩
theorem get_gone (h:St P0 n0 A b w fb S) (id:List UInt8) (hl:id.length=32) (hn:S.now (fileP id)=none) :
  Calls Tryz.prog 19 #[.pointer (some ⟨fb,0,none⟩),.string (Vc.bs id)] w fun e w'=>e=.returned (.tuple #[.string ⟨#[]⟩,.int .i64 2])∧Kept [] w w' :=
 get_err id hl 2 (.inl rfl) fun X hX=>(read_rep (h.rep.keep hX) (calm_nil _ _) (fileP id) (by rw [fileP_size hl];decide)).mono fun e w' ⟨hk,hr⟩=>by
  have e2:S.syE (fileP id)=2:=sy_none (fileP_path hl) hn
  rcases hr with ⟨_,he⟩ | ⟨h0,_⟩
  ·rw [e2] at he;exact ⟨he,hk⟩
  ·rw [e2] at h0;cases h0
set_option maxHeartbeats 1600000 in
set_option maxRecDepth 100000 in
theorem get_there (h:St P0 n0 A b w fb S) (id:List UInt8) (hl:id.length=32) {x:Nat} (hn:S.now (fileP id)=some (some x)) :
  Calls Tryz.prog 19 #[.pointer (some ⟨fb,0,none⟩),.string (Vc.bs id)] w fun e w'=>e=.returned (getV (getR (S.files x).now id))∧Kept [] w w':=by
 have e0:S.syE (fileP id)=0:=sy_file (fileP_path hl) hn
 have hx:x < S.came:=h.rep.o1 _ x hn
 obtain ⟨p,hp⟩:∃ p,(S.files x).now=p:=⟨_,rfl⟩
 have hps:p.size≤100000000:=by
  obtain ⟨b1,b2,b3,done,n1,n2,n3,D1,D2,D3,F,e1,e2,e3,hS,hL⟩:=h.rep.laid
  rw [← hp]
  exact (hL.files x hx).2.2.1
 have HP:=hideIt (path_any id hl w)
 have HRD:Hid (∀ X,Kept [] w X→Calls Tryz.prog 33 #[.pointer (some ⟨fb,0,none⟩),.string (fileP id)] X fun e w'=>e=.returned (.tuple #[.string p,.int .i64 0])∧Kept [] X w'):=hideIt (fun X hX=>(read_rep (h.rep.keep hX) (calm_nil _ _) (fileP id) (by rw [fileP_size hl];decide)).mono fun e w' ⟨hk,hr⟩=>by
  rcases hr with ⟨h0,_⟩ | ⟨_,y,hy,_,he⟩
  ·exact absurd e0 h0
  ·rw [hn] at hy
   simp only [Option.some.injEq] at hy
   subst hy
   rw [hp] at he
   exact ⟨he,hk⟩)
 have HS:=hideIt (fun w=>spread_c p w hps)
 rw [hp]
 have HG:Hid (getR p id=if (Ld.Lz.spP p.data.toList 1048576).1=0∧(Sa.Sha.sha (Ld.Lz.spP p.data.toList 1048576).2)=Vc.bs id then some (Ld.Lz.spP p.data.toList 1048576).2 else none):=hideIt rfl
 have hlen:(Ld.Lz.spP p.data.toList 1048576).1=0→(Ld.Lz.spP p.data.toList 1048576).2.length≤1048576:=fun _=>sp_len p.data.toList
 generalize getR p id=G at HG ⊢
 generalize Ld.Lz.spP p.data.toList 1048576=R at HS HG hlen
 obtain ⟨E,r⟩:=R
 simp only at HS HG hlen
 have HO:=hideIt h.ok
 have HO2:Hid (∀ X,Kept [] w X→Ob.Ok X):=hideIt (fun X hX=>(h.kept hX).ok.ok)
 clear h hn e0 hp hx HO hl
 generalize fileP id=q at HP HRD
 generalize Vc.bs id=i at HP HG ⊢
 by_cases hE:E=0
 ·subst hE
  have HI:=hideIt (fun X hX=>Ob.id_any (Vc.bs r) X (by rw [Vc.bs_size];have:=hlen rfl;omega) (HO2.out X hX))
  rw [show (Vc.bs r).data.toList=r from Vc.bs_list r] at HI
  generalize Sa.Sha.sha r=s at HI HG
  clear hlen
  by_cases hs:s=i
  ·have HGV:Hid (G=some r):=hideIt (by rw [HG.out,if_pos ⟨rfl,hs⟩])
   rw [HGV.out]
   have q1:(s.toList == i.toList)=true:=by rw [toL_eq,hs];simp
   have q2:(s.toList != i.toList)=false:=by rw [bne,q1];rfl
   clear hs HG
   show Calls _ _ _ _ fun e w'=>e=.returned (.tuple #[.string (Vc.bs r),.int .i64 0])∧_
   generalize Vc.bs r=rr at HS HI ⊢
   go_enter Tryz.func19,Tryz.ntmps19
   go_wp2_with (first | (go_at_call 24;refine HP.out.mono ?_;rintro e w1 ⟨rfl,hb1⟩) | (go_at_call 33;refine (HRD.out _ (Kept.of_below hb1)).mono ?_;rintro e w2 ⟨rfl,hk2⟩;have HK2:=hideIt (below_kept hb1 hk2);clear hk2) | (go_at_call 49;refine (HS.out _).mono ?_;rintro e w3 ⟨rfl,hb3⟩;have HK3:=hideIt (kept_below HK2.out hb3);clear hb3) | (go_at_call 38;refine (HI.out _ HK3.out).mono ?_;rintro e w4 ⟨rfl,hb4⟩))
   go_ret2
   exact ⟨rfl,kept_below HK3.out hb4⟩
  ·have HGV:Hid (G=none):=hideIt (by rw [HG.out,if_neg (fun h=>hs h.2)])
   rw [HGV.out]
   have q1:(s.toList == i.toList)=false:=by rw [toL_eq];simp [hs]
   have q2:(s.toList != i.toList)=true:=by rw [bne,q1];rfl
   have q3:¬ s.toList=i.toList:=beq_eq_false_iff_ne.1 q1
   clear hs HG
   show Calls _ _ _ _ fun e w'=>e=.returned (.tuple #[.string ⟨#[]⟩,.int .i64 80])∧_
   generalize Vc.bs r=rr at HS HI
   go_enter Tryz.func19,Tryz.ntmps19
   go_wp2_with (first | (go_at_call 24;refine HP.out.mono ?_;rintro e w1 ⟨rfl,hb1⟩) | (go_at_call 33;refine (HRD.out _ (Kept.of_below hb1)).mono ?_;rintro e w2 ⟨rfl,hk2⟩;have HK2:=hideIt (below_kept hb1 hk2);clear hk2) | (go_at_call 49;refine (HS.out _).mono ?_;rintro e w3 ⟨rfl,hb3⟩;have HK3:=hideIt (kept_below HK2.out hb3);clear hb3) | (go_at_call 38;refine (HI.out _ HK3.out).mono ?_;rintro e w4 ⟨rfl,hb4⟩))
   go_ret2
   exact ⟨rfl,kept_below HK3.out hb4⟩
 ·have HGV:Hid (G=none):=hideIt (by rw [HG.out,if_neg (fun h=>hE h.1)])
  rw [HGV.out]
  have q1:((E:Int) == 0)=false:=by rw [beq_eq_false_iff_ne];omega
  have q2:((E:Int) != 0)=true:=by rw [bne,q1];rfl
  have q3:¬ (E:Int)=0:=by omega
  clear HG hlen
  show Calls _ _ _ _ fun e w'=>e=.returned (.tuple #[.string ⟨#[]⟩,.int .i64 80])∧_
  generalize Vc.bs r=rr at HS
  go_enter Tryz.func19,Tryz.ntmps19
  go_wp2_with (first | (go_at_call 24;refine HP.out.mono ?_;rintro e w1 ⟨rfl,hb1⟩) | (go_at_call 33;refine (HRD.out _ (Kept.of_below hb1)).mono ?_;rintro e w2 ⟨rfl,hk2⟩;have HK2:=hideIt (below_kept hb1 hk2);clear hk2) | (go_at_call 49;refine (HS.out _).mono ?_;rintro e w3 ⟨rfl,hb3⟩;have HK3:=hideIt (kept_below HK2.out hb3);clear hb3))
  go_ret2
  exact ⟨rfl,HK3.out⟩
end
end Go.Proofs.YtogjlepdejonpaaGreatDoor.Lo
namespace Go.Proofs.YtogjlepdejonpaaGreatDoor.Lo
open Vc Go.RowKit Go.Shelf
theorem inc_ne_dir {id:List UInt8} (h:id.length=32):dirP id≠incP:=ne_len (by rw [dir_len h];decide)
theorem inc_ne_file {id:List UInt8} (h:id.length=32):fileP id≠incP:=ne_len (by rw [file_len h];decide)
theorem dir_ne_file {id jd:List UInt8} (h:id.length=32) (hj:jd.length=32):dirP id≠fileP jd:=ne_len (by rw [dir_len h,file_len hj];decide)
theorem obj_ne_dir {id:List UInt8} (h:id.length=32):objP≠dirP id:=ne_len (by rw [dir_len h];decide)
theorem obj_ne_file {id:List UInt8} (h:id.length=32):objP≠fileP id:=ne_len (by rw [file_len h];decide)
structure Ready (S:Fs) (id:List UInt8):Prop where
 obj:S.now objP=some none
 inc:S.now incP=none
 dir:S.now (dirP id)=some none
 file:S.now (fileP id)≠some none
noncomputable def inS (S:Fs) (p:ByteArray):Fs:={ S.fresh incP p with files:=updF (S.fresh incP p).files S.came ⟨p,p⟩,steps:=S.steps + 2 }
def setU (S:Fs) (u:Int):Fs:={ S with used:=u }
theorem setU_now (S:Fs) (u:Int):(setU S u).now=S.now:=rfl
theorem enact_now (S:Fs) (a:Pa):(S.enact a).now=doN S.now a:=rfl
noncomputable def movS (S:Fs) (id:List UInt8) (p:ByteArray) (u:Int):Fs:=setU ((inS S p).enact ⟨1,incP,fileP id,some S.came⟩) u
theorem movS_now (S:Fs) (id:List UInt8) (p:ByteArray) (u:Int):(movS S id p u).now=doN (inS S p).now ⟨1,incP,fileP id,some S.came⟩:=by
 unfold movS
 rw [setU_now,enact_now]
noncomputable def laidS (S:Fs) (id:List UInt8) (p:ByteArray) (u:Int):Fs:=(movS S id p u).syncDir (dirP id)
theorem isDir_of {n:Nm} {q:ByteArray} (h:n q=some none):isDir n q=true:=by unfold isDir;rw [h];simp
theorem isDir_not {n:Nm} {q:ByteArray} (h0:q.data.toList≠[]) (h:n q≠some none):isDir n q=false:=by
 unfold isDir
 have:q.data.toList.isEmpty=false:=by simpa using h0
 rw [this]
 cases hq:n q with
 | none=>rfl
 | some v =>
  cases v with
  | none=>exact absurd hq h
  | some x=>rfl
theorem ne_nil_of {L:List UInt8} (h:L.length≠0):(Vc.bs L).data.toList≠[]:=by
 rw [Vc.bs_list]
 exact fun e=>h (by rw [e];rfl)
theorem inc_now {S:Fs} {id:List UInt8} (h:Ready S id) (p:ByteArray):(S.fresh incP p).now=fun q=>if q=incP then some (some S.came) else S.now q:=by
 show doN S.now ⟨0,incP,⟨#[]⟩,some S.came⟩=_
 rw [doN_comes h.inc (by rw [dir_inc];exact isDir_of h.obj)]
theorem moved_now {S:Fs} {id:List UInt8} (hl:id.length=32) (h:Ready S id) (p:ByteArray):doN (inS S p).now ⟨1,incP,fileP id,some S.came⟩=fun q=>if q=fileP id then some (some S.came) else S.now q:=by
 have hn:(inS S p).now=fun q=>if q=incP then some (some S.came) else S.now q:=inc_now h p
 rw [hn]
 unfold doN
 have hd:isDir (fun q=>if q=incP then some (some S.came) else S.now q) (dirOf (fileP id))=true:=by
  rw [dir_file]
  apply isDir_of
  show (if dirP id=incP then _ else _)=_
  rw [if_neg (inc_ne_dir hl),h.dir]
 have hf:isDir (fun q=>if q=incP then some (some S.came) else S.now q) (fileP id)=false:=by
  refine isDir_not (ne_nil_of (by rw [file_len hl];decide)) ?_
  show (if fileP id=incP then _ else _)≠_
  rw [if_neg (inc_ne_file hl)]
  exact h.file
 rw [if_neg (show ¬ (1:Nat)=0 by decide),if_pos rfl,if_pos ⟨hd,.inl hf⟩]
 funext q
 show (if q=fileP id then some (some S.came) else if q=incP∧_ then none else if q=incP then _ else S.now q)=_
 by_cases e:q=fileP id
 ·rw [if_pos e,if_pos e]
 ·rw [if_neg e,if_neg e]
  by_cases e2:q=incP
  ·rw [if_pos ⟨e2,by simp [pvN]⟩,e2,h.inc]
  ·rw [if_neg (fun h'=>e2 h'.1),if_neg e2]
section
variable {n0:Nat} {A:Nat→Prop} {b:Nat} {w w':World} {fb room:Nat} {S:Fs}
theorem wr_inc {id:List UInt8} (h:Ready S id):S.wrN incP=0:=by
 unfold Fs.wrN
 rw [if_pos incP_path,dir_inc,isDir_of h.obj,if_pos rfl,isDir_not (by decide +kernel) (by rw [h.inc];simp)]
 rfl
theorem lay_write {id:List UInt8} (hr:Ready S id) (h:St P0 n0 A b w fb S) (hb:b < 880) (p:ByteArray) (hp:p.size≤100000000) :
  Calls Tryz.prog 16 #[.pointer (some ⟨fb,0,none⟩),.string incP,.string p] w fun e w'=>(Full S.used S.room (p.size:Int)∧e=.returned (.int .i64 33)∧Kept [] w w')∨(¬ Full S.used S.room (p.size:Int)∧e=.returned (.int .i64 0)∧StTo P0 n0 A (b + 1) w fb (S.fresh incP p) w') :=
 (write_new_rep h.rep (by omega) (calm_nil _ _) incP p (by rw [incP_size];decide) hp (wr_inc hr) hr.inc).mono fun e w' hr'=>hr'.elim .inl fun ⟨h1,h2,h3⟩=>.inr ⟨h1,h2,h.to h3⟩
theorem lay_sync {id:List UInt8} (hr:Ready S id) (p:ByteArray) {A':Nat→Prop} {w':World} (h:St P0 n0 A' b w' fb (S.fresh incP p)) (hb:b < 880) :
  Calls Tryz.prog 90 #[.pointer (some ⟨fb,0,none⟩),.string incP] w' fun e w2=>e=.returned (.int .i64 0)∧StTo P0 n0 A' (b + 1) w' fb (inS S p) w2:=by
 have hn:(S.fresh incP p).now incP=some (some S.came):=by rw [inc_now hr p];simp
 have e0:(S.fresh incP p).syE incP=0:=sy_file incP_path hn
 refine (sync_rep h.rep (by omega) (calm_nil _ _) incP (by rw [incP_size];decide)).mono fun e w2 ⟨he,hr'⟩=>?_
 rw [e0] at he
 rcases hr' with ⟨h0,_⟩ | ⟨_,S',⟨x,hx,_,rfl⟩,hR⟩
 ·exact absurd e0 h0
 ·rw [hn] at hx
  simp only [Option.some.injEq] at hx
  subst hx
  have hf:((S.fresh incP p).files S.came).now=p:=by
   show (updF S.files S.came ⟨p,⟨#[]⟩⟩ S.came).now=p
   simp [updF]
  rw [hf] at hR
  exact ⟨he,h.to hR⟩
theorem lay_move {id:List UInt8} (hl:id.length=32) (hr:Ready S id) (p:ByteArray) {A':Nat→Prop} {w':World} (h:St P0 n0 A' b w' fb (inS S p)) (hb:b < 880) :
  Calls Tryz.prog 91 #[.pointer (some ⟨fb,0,none⟩),.string incP,.string (fileP id)] w' fun e w2=>e=.returned (.int .i64 0)∧∃ u,u≤(inS S p).used∧StTo P0 n0 A' (b + 1) w' fb (movS S id p u) w2:=by
 have hn:(inS S p).now=fun q=>if q=incP then some (some S.came) else S.now q:=inc_now hr p
 have h1:(inS S p).now incP=some (some S.came):=by rw [hn];simp
 have h2:pvN (inS S p).now incP=some S.came:=by unfold pvN;rw [h1]
 have hd:isDir (inS S p).now (dirOf (fileP id))=true:=by
  rw [dir_file]
  apply isDir_of
  rw [hn]
  show (if dirP id=incP then _ else _)=_
  rw [if_neg (inc_ne_dir hl),hr.dir]
 have hf:isDir (inS S p).now (fileP id)=false:=by
  refine isDir_not (ne_nil_of (by rw [file_len hl];decide)) ?_
  rw [hn]
  show (if fileP id=incP then _ else _)≠_
  rw [if_neg (inc_ne_file hl)]
  exact hr.file
 have e0:(inS S p).rnE incP (fileP id)=0:=by
  unfold Fs.rnE
  rw [if_pos ⟨incP_path,fileP_path hl⟩,h1,h2,toL_eq,hd,hf]
  simp [Ne.symm (inc_ne_file hl)]
 refine (rename_rep h.rep (by omega) (calm_nil _ _) incP (fileP id) (by rw [incP_size];decide) (by rw [fileP_size hl];decide)).mono fun e w2 ⟨he,hr'⟩=>?_
 rw [e0] at he
 rcases hr' with ⟨h0,_⟩ | ⟨_,S',⟨u,hu,rfl⟩,hR⟩
 ·exact absurd e0 h0
 ·rw [h2] at hR
  exact ⟨he,u,hu,h.to hR⟩
theorem lay_sure {id:List UInt8} (hl:id.length=32) (hr:Ready S id) (p:ByteArray) (u:Int) {A':Nat→Prop} {w':World} (h:St P0 n0 A' b w' fb (movS S id p u)) (hb:b < 880) :
  Calls Tryz.prog 58 #[.pointer (some ⟨fb,0,none⟩),.string (dirP id)] w' fun e w2=>e=.returned (.int .i64 0)∧StTo P0 n0 A' (b + 1) w' fb (laidS S id p u) w2:=by
 have hn:(movS S id p u).now (dirP id)=some none:=by
  rw [movS_now,moved_now hl hr p]
  show (if dirP id=fileP id then _ else _)=_
  rw [if_neg (dir_ne_file hl hl),hr.dir]
 have e0:(movS S id p u).nfE (dirP id)=0:=nf_of (dirP_path hl) hn
 refine (syncDir_rep h.rep (by omega) (calm_nil _ _) (dirP id) (by rw [dirP_size hl];decide)).mono fun e w2 ⟨he,hr'⟩=>?_
 rw [e0] at he
 rcases hr' with ⟨h0,_⟩ | ⟨_,S',rfl,hR⟩
 ·exact absurd e0 h0
 ·exact ⟨he,h.to hR⟩
set_option maxHeartbeats 1600000 in
set_option maxRecDepth 100000 in
theorem lay_any (id:List UInt8) (hl:id.length=32) (p:ByteArray) (hp:p.size≤100000000) {S1:Fs} (hr:Ready S1 id) (hb:b < 870) (HM:∀ X,Kept [] w X→Calls Tryz.prog 67 #[.pointer (some ⟨fb,0,none⟩),.string objP,.string (dirP id)] X fun e w'=>e=.returned (.int .i64 0)∧StTo P0 n0 A b w fb S1 w') :
  Calls Tryz.prog 40 #[.pointer (some ⟨fb,0,none⟩),.string (Vc.bs id),.string p] w fun e w'=>(Full S1.used S1.room (p.size:Int)∧e=.returned (.int .i64 33)∧StTo P0 n0 A b w fb S1 w')∨(¬ Full S1.used S1.room (p.size:Int)∧e=.returned (.int .i64 0)∧∃ u,u≤S1.used + (p.size:Int)∧StTo P0 n0 A (b + 4) w fb (laidS S1 id p u) w'):=by
 have HFO:=hideIt (fun w=>folder_any id hl w)
 have HPA:=hideIt (fun w=>path_any id hl w)
 have HMF:=hideIt HM
 have HW:Hid (∀ X,StTo P0 n0 A b w fb S1 X→Calls Tryz.prog 16 #[.pointer (some ⟨fb,0,none⟩),.string incP,.string p] X fun e w'=>(Full S1.used S1.room (p.size:Int)∧e=.returned (.int .i64 33)∧StTo P0 n0 A b w fb S1 w')∨(¬ Full S1.used S1.room (p.size:Int)∧e=.returned (.int .i64 0)∧StTo P0 n0 A (b + 1) w fb (S1.fresh incP p) w')):=hideIt (fun X ⟨A2,k1,k2,k3⟩=>(lay_write hr k2 (by omega) p hp).mono fun e w' hr'=>by
  rcases hr' with ⟨h1,h2,h3⟩ | ⟨h1,h2,h3⟩
  ·exact .inl ⟨h1,h2,StTo.step k1 k3 (StTo.kept k2 h3)⟩
  ·exact .inr ⟨h1,h2,StTo.step k1 k3 h3⟩)
 have HS:Hid (∀ X,StTo P0 n0 A (b + 1) w fb (S1.fresh incP p) X→Calls Tryz.prog 90 #[.pointer (some ⟨fb,0,none⟩),.string incP] X fun e w'=>e=.returned (.int .i64 0)∧StTo P0 n0 A (b + 2) w fb (inS S1 p) w'):=hideIt (fun X ⟨A2,k1,k2,k3⟩=>(lay_sync hr p k2 (by omega)).mono fun e w' ⟨h1,h2⟩=>⟨h1,StTo.step k1 k3 h2⟩)
 have HR:Hid (∀ X Y,StTo P0 n0 A (b + 2) w fb (inS S1 p) X→Kept [] X Y→Calls Tryz.prog 91 #[.pointer (some ⟨fb,0,none⟩),.string incP,.string (fileP id)] Y fun e w'=>e=.returned (.int .i64 0)∧∃ u,u≤(inS S1 p).used∧StTo P0 n0 A (b + 3) w fb (movS S1 id p u) w'):=hideIt (fun X Y ⟨A2,k1,k2,k3⟩ hY=>(lay_move hl hr p (k2.kept hY) (by omega)).mono fun e w' ⟨h1,u,hu,h2⟩=>⟨h1,u,hu,StTo.step k1 k3 (StTo.step (fun _ hg=>.inl hg) (Out.kept hY) h2)⟩)
 have HD:Hid (∀ X u,StTo P0 n0 A (b + 3) w fb (movS S1 id p u) X→Calls Tryz.prog 58 #[.pointer (some ⟨fb,0,none⟩),.string (dirP id)] X fun e w'=>e=.returned (.int .i64 0)∧StTo P0 n0 A (b + 4) w fb (laidS S1 id p u) w'):=hideIt (fun X u ⟨A2,k1,k2,k3⟩=>(lay_sure hl hr p u k2 (by omega)).mono fun e w' ⟨h1,h2⟩=>⟨h1,StTo.step k1 k3 h2⟩)
 have hu:(inS S1 p).used=S1.used + (p.size:Int):=rfl
 have HU:=hideIt hu
 have ei:(⟨#[111,98,106,101,99,116,115,47,105,110,99,111,109,105,110,103]⟩:ByteArray)=incP:=by decide +kernel
 have eo:(⟨#[111,98,106,101,99,116,115]⟩:ByteArray)=objP:=by decide +kernel
 clear hr HM hl hu
 obtain ⟨T1,hT1⟩:∃ T1:World→Prop,T1=StTo P0 n0 A b w fb S1:=⟨_,rfl⟩
 obtain ⟨T2,hT2⟩:∃ T2:World→Prop,T2=StTo P0 n0 A (b + 1) w fb (S1.fresh incP p):=⟨_,rfl⟩
 obtain ⟨T3,hT3⟩:∃ T3:World→Prop,T3=StTo P0 n0 A (b + 2) w fb (inS S1 p):=⟨_,rfl⟩
 obtain ⟨T4,hT4⟩:∃ T4:Int→World→Prop,T4=fun u=>StTo P0 n0 A (b + 3) w fb (movS S1 id p u):=⟨_,rfl⟩
 obtain ⟨T5,hT5⟩:∃ T5:Int→World→Prop,T5=fun u=>StTo P0 n0 A (b + 4) w fb (laidS S1 id p u):=⟨_,rfl⟩
 replace HMF:Hid (∀ X,Kept [] w X→Calls Tryz.prog 67 #[.pointer (some ⟨fb,0,none⟩),.string objP,.string (dirP id)] X fun e w'=>e=.returned (.int .i64 0)∧T1 w'):=by rw [hT1];exact HMF
 replace HW:Hid (∀ X,T1 X→Calls Tryz.prog 16 #[.pointer (some ⟨fb,0,none⟩),.string incP,.string p] X fun e w'=>(Full S1.used S1.room (p.size:Int)∧e=.returned (.int .i64 33)∧T1 w')∨(¬ Full S1.used S1.room (p.size:Int)∧e=.returned (.int .i64 0)∧T2 w')):=by rw [hT1,hT2];exact HW
 replace HS:Hid (∀ X,T2 X→Calls Tryz.prog 90 #[.pointer (some ⟨fb,0,none⟩),.string incP] X fun e w'=>e=.returned (.int .i64 0)∧T3 w'):=by rw [hT2,hT3];exact HS
 replace HR:Hid (∀ X Y,T3 X→Kept [] X Y→Calls Tryz.prog 91 #[.pointer (some ⟨fb,0,none⟩),.string incP,.string (fileP id)] Y fun e w'=>e=.returned (.int .i64 0)∧∃ u,u≤S1.used + (p.size:Int)∧T4 u w'):=by rw [hT3,hT4,← HU.out];exact HR
 replace HD:Hid (∀ X u,T4 u X→Calls Tryz.prog 58 #[.pointer (some ⟨fb,0,none⟩),.string (dirP id)] X fun e w'=>e=.returned (.int .i64 0)∧T5 u w'):=by rw [hT4,hT5];exact HD
 show Calls _ _ _ _ fun e w'=>(Full S1.used S1.room (p.size:Int)∧e=.returned (.int .i64 33)∧StTo P0 n0 A b w fb S1 w')∨(¬ Full S1.used S1.room (p.size:Int)∧e=.returned (.int .i64 0)∧∃ u,u≤S1.used + (p.size:Int)∧(fun u=>StTo P0 n0 A (b + 4) w fb (laidS S1 id p u)) u w')
 rw [← hT1,← hT5]
 clear hT1 hT2 hT3 hT4 hT5 HU hp
 generalize Full S1.used S1.room (p.size:Int)=FU at HW ⊢
 generalize S1.used + (p.size:Int)=UU at HR ⊢
 generalize dirP id=d at HFO HMF HD
 generalize fileP id=q at HPA HR
 generalize Vc.bs id=i at HFO HPA ⊢
 generalize incP=ip at HW HS HR ei
 generalize objP=op at HMF eo
 subst ei eo
 by_cases hfu:FU
 ·have HFU:=hideIt hfu
  clear hfu
  go_enter Tryz.func40,Tryz.ntmps40
  go_wp2_with (first | (go_at_call 56;refine (HFO.out _).mono ?_;rintro e w1 ⟨rfl,hb1⟩) | (go_at_call 67;refine (HMF.out _ (Kept.of_below hb1)).mono ?_;rintro e w2 ⟨rfl,ht2⟩) | (go_at_call 16;refine (HW.out _ ht2).mono ?_;rintro e w3 hw3;obtain ⟨rfl,ht3⟩:e=.returned (.int .i64 33)∧T1 w3:=hw3.elim (fun h=>h.2) (fun h=>absurd HFU.out h.1);clear hw3))
  go_ret
  exact .inl ⟨HFU.out,rfl,ht3⟩
 ·have HFU:=hideIt hfu
  clear hfu
  go_enter Tryz.func40,Tryz.ntmps40
  go_wp2_with (first | (go_at_call 56;refine (HFO.out _).mono ?_;rintro e w1 ⟨rfl,hb1⟩) | (go_at_call 67;refine (HMF.out _ (Kept.of_below hb1)).mono ?_;rintro e w2 ⟨rfl,ht2⟩) | (go_at_call 16;refine (HW.out _ ht2).mono ?_;rintro e w3 hw3;obtain ⟨rfl,ht3⟩:e=.returned (.int .i64 0)∧T2 w3:=hw3.elim (fun h=>absurd h.1 HFU.out) (fun h=>h.2);clear hw3) | (go_at_call 90;refine (HS.out _ ht3).mono ?_;rintro e w4 ⟨rfl,ht4⟩) | (go_at_call 24;refine (HPA.out _).mono ?_;rintro e w5 ⟨rfl,hb5⟩) | (go_at_call 91;refine (HR.out _ _ ht4 (Kept.of_below hb5)).mono ?_;rintro e w6 ⟨rfl,u,hu,ht6⟩) | (go_at_call 58;refine (HD.out _ _ ht6).mono ?_;rintro e w7 ⟨rfl,ht7⟩))
  go_ret
  exact .inr ⟨HFU.out,rfl,u,hu,ht7⟩
end
end Go.Proofs.YtogjlepdejonpaaGreatDoor.Lo
namespace Go.Proofs.YtogjlepdejonpaaGreatDoor.Lo
open Vc Go.RowKit Go.Shelf
def idL (raw:List UInt8):List UInt8:=(Sa.Sha.sha raw).data.toList
theorem id_bs (raw:List UInt8):Vc.bs (idL raw)=Sa.Sha.sha raw:=Vc.bs_data _
theorem id_len (raw:List UInt8):(idL raw).length=32:=by rw [idL,Vc.str_len];exact Ob.sha_size raw
def prP (raw:List UInt8):ByteArray:=Vc.bs (Ld.Lz.press raw)
theorem press_c (raw:List UInt8) (w:World) (h:raw.length≤1048576):Calls Tryz.prog 39 #[.string (Vc.bs raw)] w fun e w'=>e=.returned (.tuple #[.string (prP raw),.int .i64 0])∧Below w.heap.size w w':=by
 have:=Ld.press_any (Vc.bs raw) w (by rw [Vc.bs_size];exact h)
 rw [Vc.bs_list] at this
 exact this
theorem id_c (raw:List UInt8) (w:World) (h:raw.length≤1048576) (hk:Ob.Ok w):Calls Tryz.prog 38 #[.string (Vc.bs raw)] w fun e w'=>e=.returned (.string (Vc.bs (idL raw)))∧Below w.heap.size w w':=by
 have:=Ob.id_any (Vc.bs raw) w (by rw [Vc.bs_size];omega) hk
 rw [Vc.bs_list,← id_bs] at this
 exact this
set_option maxHeartbeats 800000 in
set_option maxRecDepth 100000 in
theorem links_blob (body:List UInt8) (hb:body.length≤262144) (w:World) (hk:Ob.Ok w):Calls Tryz.prog 37 #[.string (Vc.bs (Ob.rawL 1 body))] w fun e w'=>e=.returned (.tuple #[.slice none 0 0,.int .i64 0])∧Below w.heap.size w w':=by
 have hlen:=Ob.raw_len 1 body (by omega)
 have HS:=hideIt (Ob.split_any (Ob.rawL 1 body) (by omega) w hk)
 rw [Ob.opn_raw 1 (by decide) body (by omega),if_neg (by omega)] at HS
 unfold Ob.opV at HS
 simp only at HS
 clear hk hlen hb
 have HS2:Hid (∃ x y:ByteArray,Vc.bs (Ob.rawL 1 body)=x∧Calls Tryz.prog 81 #[.string x] w fun e w'=>e=.returned (.tuple #[.int .i64 1,.string y,.int .i64 0])∧Below w.heap.size w w'):=hideIt ⟨_,_,rfl,HS.out⟩
 obtain ⟨x,y,hx,H⟩:=HS2.out
 rw [hx]
 have HH:=hideIt H
 clear HS HS2 H hx
 go_enter Tryz.func37,Tryz.ntmps37
 go_wp2_with (first | (go_at_call 81;refine HH.out.mono ?_;rintro e w1 ⟨rfl,hb1⟩))
 go_ret2
 exact ⟨rfl,hb1⟩
section
variable {pl:Value} {n0:Nat} {A:Nat→Prop} {b:Nat} {w w':World} {fb room:Nat} {S:Fs}
set_option maxHeartbeats 800000 in
set_option maxRecDepth 100000 in
theorem put_same (raw:List UInt8) (hr:raw.length≤1048576) (hk:∀ X,Kept [] w X→Ob.Ok X) {v:Value} (HL:Calls Tryz.prog 37 #[.string (Vc.bs raw)] w fun e w'=>(∃ v,e=.returned (.tuple #[v,.int .i64 0]))∧Below w.heap.size w w')
  (HG:∀ X,Kept [] w X→Calls Tryz.prog 19 #[.pointer (some ⟨fb,0,none⟩),.string (Vc.bs (idL raw))] X fun e w'=>e=.returned (.tuple #[v,.int .i64 0])∧Kept [] X w') :
  Calls Tryz.prog 15 #[.pointer (some ⟨fb,0,none⟩),.string (Vc.bs raw)] w fun e w'=>e=.returned (.tuple #[.string (Vc.bs (idL raw)),.int .i64 0])∧Kept [] w w':=by
 have HLK:=hideIt HL
 have HGT:=hideIt HG
 have HID:=hideIt (fun X hX=>id_c raw X hr (hk X hX))
 clear HL HG hk hr
 generalize Vc.bs (idL raw)=i at HGT HID ⊢
 generalize Vc.bs raw=r at HLK HID ⊢
 go_enter Tryz.func15,Tryz.ntmps15
 go_wp2_with (first | (go_at_call 37;refine HLK.out.mono ?_;rintro e w1 ⟨⟨v1,rfl⟩,hb1⟩) | (go_at_call 38;refine (HID.out _ (Kept.of_below hb1)).mono ?_;rintro e w2 ⟨rfl,hb2⟩;have HK2:=hideIt (kept_below (Kept.of_below hb1) hb2);clear hb2) | (go_at_call 19;refine (HGT.out _ HK2.out).mono ?_;rintro e w3 ⟨rfl,hk3⟩))
 go_ret2
 exact ⟨rfl,(HK2.out.trans hk3).sub (by simp)⟩
set_option maxHeartbeats 800000 in
set_option maxRecDepth 100000 in
theorem put_lay (raw:List UInt8) (hr:raw.length≤1048576) (hk:∀ X,Kept [] w X→Ob.Ok X) (HL:Calls Tryz.prog 37 #[.string (Vc.bs raw)] w fun e w'=>(∃ v,e=.returned (.tuple #[v,.int .i64 0]))∧Below w.heap.size w w')
  (E:Int) (hE:E≠0) (HG:∀ X,Kept [] w X→Calls Tryz.prog 19 #[.pointer (some ⟨fb,0,none⟩),.string (Vc.bs (idL raw))] X fun e w'=>e=.returned (.tuple #[.string ⟨#[]⟩,.int .i64 E])∧Kept [] X w')
  (R:Int) (T:World→Prop) (HY:∀ X,Kept [] w X→Calls Tryz.prog 40 #[.pointer (some ⟨fb,0,none⟩),.string (Vc.bs (idL raw)),.string (prP raw)] X fun e w'=>e=.returned (.int .i64 R)∧T w') :
  Calls Tryz.prog 15 #[.pointer (some ⟨fb,0,none⟩),.string (Vc.bs raw)] w fun e w'=>e=.returned (if R=0 then .tuple #[.string (Vc.bs (idL raw)),.int .i64 0] else .tuple #[.string ⟨#[]⟩,.int .i64 R])∧T w':=by
 have HLK:=hideIt HL
 have HGT:=hideIt HG
 have HLY:=hideIt HY
 have HPR:=hideIt (fun X=>press_c raw X hr)
 have HID:=hideIt (fun X hX=>id_c raw X hr (hk X hX))
 have q1:(E == 0)=false:=by rw [beq_eq_false_iff_ne];exact hE
 have q2:(E != 0)=true:=by rw [bne,q1];rfl
 clear HL HG HY hk hr
 generalize Vc.bs (idL raw)=i at HGT HID HLY ⊢
 generalize prP raw=p at HPR HLY
 generalize Vc.bs raw=r at HLK HID HPR ⊢
 by_cases hR:R=0
 ·subst hR
  rw [if_pos rfl]
  go_enter Tryz.func15,Tryz.ntmps15
  go_wp2_with (first | (go_at_call 37;refine HLK.out.mono ?_;rintro e w1 ⟨⟨v1,rfl⟩,hb1⟩) | (go_at_call 38;refine (HID.out _ (Kept.of_below hb1)).mono ?_;rintro e w2 ⟨rfl,hb2⟩;have HK2:=hideIt (kept_below (Kept.of_below hb1) hb2);clear hb2) | (go_at_call 19;refine (HGT.out _ HK2.out).mono ?_;rintro e w3 ⟨rfl,hk3⟩;have HK3:Hid (Kept [] w w3):=hideIt ((HK2.out.trans hk3).sub (by simp));clear hk3) | (go_at_call 39;refine (HPR.out _).mono ?_;rintro e w4 ⟨rfl,hb4⟩;have HK4:=hideIt (kept_below HK3.out hb4);clear hb4) | (go_at_call 40;refine (HLY.out _ HK4.out).mono ?_;rintro e w5 ⟨rfl,ht5⟩))
  go_ret2
  exact ⟨rfl,ht5⟩
 ·rw [if_neg hR]
  have r1:(R == 0)=false:=by rw [beq_eq_false_iff_ne];exact hR
  have r2:(R != 0)=true:=by rw [bne,r1];rfl
  go_enter Tryz.func15,Tryz.ntmps15
  go_wp2_with (first | (go_at_call 37;refine HLK.out.mono ?_;rintro e w1 ⟨⟨v1,rfl⟩,hb1⟩) | (go_at_call 38;refine (HID.out _ (Kept.of_below hb1)).mono ?_;rintro e w2 ⟨rfl,hb2⟩;have HK2:=hideIt (kept_below (Kept.of_below hb1) hb2);clear hb2) | (go_at_call 19;refine (HGT.out _ HK2.out).mono ?_;rintro e w3 ⟨rfl,hk3⟩;have HK3:Hid (Kept [] w w3):=hideIt ((HK2.out.trans hk3).sub (by simp));clear hk3) | (go_at_call 39;refine (HPR.out _).mono ?_;rintro e w4 ⟨rfl,hb4⟩;have HK4:=hideIt (kept_below HK3.out hb4);clear hb4) | (go_at_call 40;refine (HLY.out _ HK4.out).mono ?_;rintro e w5 ⟨rfl,ht5⟩))
  go_ret2
  exact ⟨rfl,ht5⟩
section
variable {nb:Nat} {sv dv uv:Value} {came used room steps:Int}
end
end
end Go.Proofs.YtogjlepdejonpaaGreatDoor.Lo
namespace Go.Proofs.YtogjlepdejonpaaGreatDoor.Lo
open Vc Go.RowKit Go.Shelf
def blobL (s:List UInt8):List UInt8:=Ob.rawL 1 (s.take 200)
theorem blob_len (s:List UInt8):(blobL s).length≤228:=by
 have:=Ob.raw_len 1 (s.take 200) (by simp;omega)
 unfold blobL
 simp at this
 omega
set_option maxHeartbeats 800000 in
set_option maxRecDepth 100000 in
theorem blob_any (s:List UInt8) (w:World):Calls Tryz.prog 11 #[.string (Vc.bs s)] w fun e w'=>e=.returned (.string (Vc.bs (blobL s)))∧Below w.heap.size w w':=by
 have hsz:(Vc.bs s).size=s.length:=Vc.bs_size s
 have HR:Hid (∀ w,Calls Tryz.prog 34 #[.int .i64 1,.string (Vc.bs (s.take 200))] w fun e w'=>e=.returned (.string (Vc.bs (blobL s)))∧Below w.heap.size w w'):=hideIt (fun w=>by
  have:=Ob.refraw_any 1 (by decide) (Vc.bs (s.take 200)) w (by rw [Vc.bs_size];simp;omega)
  rw [Vc.bs_list] at this
  exact this)
 by_cases h:200 < s.length
 ·have c1:decide ((200:Int) < ((Vc.bs s).size:Int))=true:=decide_eq_true (by omega)
  have c2:(200:Int) < ((Vc.bs s).size:Int):=by omega
  have c3:(200:Int)≤((Vc.bs s).size:Int):=by omega
  have e1:(Vc.bs s).extract 0 200=Vc.bs (s.take 200):=by rw [ext_bs];simp [List.extract]
  generalize Vc.bs (s.take 200)=t at HR e1
  generalize Vc.bs (blobL s)=r at HR ⊢
  generalize Vc.bs s=x at c1 c2 c3 e1 hsz ⊢
  clear hsz h
  go_enter Tryz.func11,Tryz.ntmps11
  go_wp2_with (first | (go_at_call 34;refine (HR.out _).mono ?_;rintro e w1 ⟨rfl,hb1⟩))
  go_ret
  exact ⟨rfl,hb1⟩
 ·have c1:decide ((200:Int) < ((Vc.bs s).size:Int))=false:=decide_eq_false (by omega)
  have c2:¬ (200:Int) < ((Vc.bs s).size:Int):=by omega
  rw [List.take_of_length_le (by omega)] at HR
  generalize Vc.bs (blobL s)=r at HR ⊢
  generalize Vc.bs s=x at HR c1 c2 hsz ⊢
  clear hsz h
  go_enter Tryz.func11,Tryz.ntmps11
  go_wp2_with (first | (go_at_call 34;refine (HR.out _).mono ?_;rintro e w1 ⟨rfl,hb1⟩))
  go_ret
  exact ⟨rfl,hb1⟩
def Made (n0 b:Nat) (w:World) (fb:Nat) (S:Fs) (w':World):Prop:=∃ A:Nat→Prop,(∀ g,A g→w.heap.size≤g)∧St P0 n0 A b w' fb S∧Below w.heap.size w w'
section
variable {n0:Nat} {A:Nat→Prop} {b b':Nat} {w w' w1:World} {fb room:Nat} {S S':Fs}
theorem Made.step (h:Made n0 b w fb S w1) (k:∀ A,St P0 n0 A b w1 fb S→StTo P0 n0 A b' w1 fb S' w'):Made n0 b' w fb S' w':=by
 obtain ⟨A,h1,h2,h3⟩:=h
 obtain ⟨A2,k1,k2,k3⟩:=k A h2
 refine ⟨A2,fun g hg=>?_,k2,h3.trans (k3.below h3.size h1)⟩
 rcases k1 g hg with e | e
 ·exact h1 g e
 ·exact Nat.le_trans h3.size e
theorem Made.of (h:StTo P0 n0 (fun g=>g=fb) b w1 fb S w') (h1:w.heap.size≤fb) (hb:Below w.heap.size w w1):Made n0 b w fb S w':=by
 obtain ⟨A2,k1,k2,k3⟩:=h
 refine ⟨A2,fun g hg=>?_,k2,hb.trans (k3.below hb.size (fun g hg=>by omega))⟩
 rcases k1 g hg with e | e
 ·omega
 ·exact Nat.le_trans hb.size e
set_option maxHeartbeats 800000 in
set_option maxRecDepth 100000 in
theorem place_any (ho:Okn n0 w) (hn:0 < n0) (hw:n0≤w.heap.size) :
  Calls Tryz.prog 14 #[] w fun e w'=>e=.returned (.tuple #[.pointer (some ⟨w.heap.size,0,none⟩),.bool true])∧Made n0 3 w w.heap.size (baseS 1048576) w':=by
 have HN:=hideIt (new_at 1048576 w)
 have HO:Hid (∀ X,NewAt X w.heap.size 1048576→Kept [] w X→Calls Tryz.prog 30 #[.pointer (some ⟨w.heap.size,0,none⟩)] X fun e w'=>e=.returned (.int .i64 0)∧Made n0 3 w w.heap.size (baseS 1048576) w'):=hideIt (fun X hX hk=>by
  have hb:Below w.heap.size w X:=(Out.kept (A:=fun _=>False) hk).below (Nat.le_refl _) (fun g hg=>hg.elim)
  exact (open_fresh hX (ho.step (hb.mono hw)) (by decide) hn hw).mono fun e w' ⟨he,hs⟩=>⟨he,Made.of hs (Nat.le_refl _) hb⟩)
 clear ho hn hw
 go_enter Tryz.func14,Tryz.ntmps14
 go_wp2_with (first | (go_at_call 29;refine HN.out.mono ?_;rintro e w1 ⟨rfl,h1,hk1,hs1⟩;have HN1:Hid (NewAt w1 w.heap.size 1048576):=hideIt h1;have HK1:=hideIt hk1;clear h1 hk1 hs1) | (go_at_call 30;refine (HO.out _ HN1.out HK1.out).mono ?_;rintro e w2 ⟨rfl,hm2⟩))
 go_ret2
 exact ⟨rfl,hm2⟩
end
end Go.Proofs.YtogjlepdejonpaaGreatDoor.Lo
namespace Go.Proofs.YtogjlepdejonpaaGreatDoor.Lo
open Vc Go.RowKit Go.Shelf
theorem tell_len (s:List UInt8) (told i:Nat) (hn:s.length≤1048576) (h1:told≤i) (h2:i≤s.length):(Ld.Lz.tell s told i).length≤4 * (s.length - told) + 4:=by
 by_cases h:i < s.length
 ·by_cases hb:Ld.Lz.back s i=0
  ·rw [Ld.Lz.tell_next h hb]
   exact tell_len s told (i + 1) hn (by omega) (by omega)
  ·have hk:=Ld.Lz.back_some hb
   have hr:=Ld.Lz.run_le hb
   have h4:4≤Ld.Lz.run s i:=by unfold Ld.Lz.run;omega
   have ih:=tell_len s (i + Ld.Lz.run s i) (i + Ld.Lz.run s i) hn (Nat.le_refl _) hr
   have a1:=Ld.numL_small (i - told) (by omega)
   have a2:=Ld.numL_small (Ld.Lz.back s i) (by omega)
   have a3:=Ld.numL_small (Ld.Lz.run s i - 4) (by omega)
   rw [Ld.Lz.tell_rep h hb]
   simp only [List.length_append,List.length_take,List.length_drop]
   omega
 ·rw [Ld.Lz.tell_end h]
  split
  ·have a1:=Ld.numL_small (s.length - told) (by omega)
   simp only [List.length_append,List.length_drop]
   omega
  ·simp
 termination_by s.length - i
 decreasing_by all_goals omega
theorem press_le (s:List UInt8) (hn:s.length≤1048576):(prP s).size≤4 * s.length + 8:=by
 have a1:=Ld.numL_small s.length (by omega)
 have a2:=tell_len s 0 0 hn (Nat.le_refl _) (by omega)
 rw [prP,Vc.bs_size,Ld.Lz.press,List.length_append]
 omega
theorem get_press (raw:List UInt8) (h:raw.length≤1048576):getR (prP raw) (idL raw)=some raw:=by
 have e:(prP raw).data.toList=Ld.Lz.press raw:=Vc.bs_list _
 unfold getR
 rw [e,Ld.Lz.sp_press raw 1048576 h (by omega)]
 exact if_pos ⟨rfl,(id_bs raw).symm⟩
def oneN (id:List UInt8):Nm:=fun q=>if q=dirP id then some none else baseN q
def oneS (room:Nat) (id:List UInt8):Fs:=⟨oneN id,oneN id,[],fun _=>⟨⟨#[]⟩,⟨#[]⟩⟩,0,0,room,5⟩
theorem base_dir {id:List UInt8} (h:id.length=32):baseN (dirP id)=none:=by unfold baseN;rw [if_neg (Ne.symm (obj_ne_dir h))]
theorem base_obj:baseN objP=some none:=by unfold baseN;rw [if_pos rfl]
theorem do_dir {id:List UInt8} (h:id.length=32):doN baseN ⟨0,dirP id,⟨#[]⟩,none⟩=oneN id:=by
 rw [doN_comes (base_dir h) (by rw [dir_dir];exact isDir_of base_obj)]
 rfl
theorem in_dir_obj (id:List UInt8):inP objP ⟨0,dirP id,⟨#[]⟩,none⟩=true:=by
 unfold inP inB
 rw [show dirOf (⟨0,dirP id,⟨#[]⟩,none⟩:Pa).p=objP from dir_dir id]
 simp
theorem one_eq (room:Nat) {id:List UInt8} (h:id.length=32):((baseS room).enact ⟨0,dirP id,⟨#[]⟩,none⟩).syncDir objP=oneS room id:=by
 unfold Fs.syncDir Fs.enact
 simp only [baseS,List.nil_append,do_dir h]
 simp only [List.filter_cons,in_dir_obj,List.filter_nil,if_true,List.foldl_cons,List.foldl_nil,do_dir h]
 rfl
theorem one_ready {room:Nat} {id:List UInt8} (h:id.length=32):Ready (oneS room id) id:=by
 refine ⟨?_,?_,?_,?_⟩
 ·show (if objP=dirP id then some none else baseN objP)=_
  rw [if_neg (obj_ne_dir h),base_obj]
 ·show (if incP=dirP id then some none else baseN incP)=_
  rw [if_neg (Ne.symm (inc_ne_dir h)),baseN,if_neg (Ne.symm obj_ne_inc)]
 ·show (if dirP id=dirP id then some none else baseN (dirP id))=_
  rw [if_pos rfl]
 ·show (if fileP id=dirP id then some none else baseN (fileP id))≠_
  rw [if_neg (Ne.symm (dir_ne_file h h)),baseN,if_neg (Ne.symm (obj_ne_file h))]
  simp
def keptN (id:List UInt8):Nm:=fun q=>if q=fileP id then some (some 0) else oneN id q
theorem syncDir_now (S:Fs) (q:ByteArray):(S.syncDir q).now=S.now:=rfl
theorem syncDir_sure (S:Fs) (q:ByteArray):(S.syncDir q).sure=(S.acts.filter (inP q)).foldl doN S.sure:=rfl
theorem syncDir_files (S:Fs) (q:ByteArray):(S.syncDir q).files=S.files:=rfl
theorem enact_acts (S:Fs) (a:Pa):(S.enact a).acts=S.acts ++ [a]:=rfl
theorem enact_sure (S:Fs) (a:Pa):(S.enact a).sure=S.sure:=rfl
theorem enact_files (S:Fs) (a:Pa):(S.enact a).files=S.files:=rfl
theorem setU_acts (S:Fs) (u:Int):(setU S u).acts=S.acts:=rfl
theorem setU_sure (S:Fs) (u:Int):(setU S u).sure=S.sure:=rfl
theorem setU_files (S:Fs) (u:Int):(setU S u).files=S.files:=rfl
theorem laid_now {S:Fs} {id:List UInt8} (hl:id.length=32) (h:Ready S id) (p:ByteArray) (u:Int):(laidS S id p u).now=fun q=>if q=fileP id then some (some S.came) else S.now q:=by
 unfold laidS
 rw [syncDir_now,movS_now,moved_now hl h p]
theorem laid_files (S:Fs) (id:List UInt8) (p:ByteArray) (u:Int):(laidS S id p u).files=updF (updF S.files S.came ⟨p,⟨#[]⟩⟩) S.came ⟨p,p⟩:=by
 unfold laidS movS
 rw [syncDir_files,setU_files,enact_files]
 rfl
theorem in_inc_dir {id:List UInt8} (h:id.length=32) (x:Option Nat):inP (dirP id) ⟨0,incP,⟨#[]⟩,x⟩=false:=by
 unfold inP inB
 rw [show dirOf (⟨0,incP,⟨#[]⟩,x⟩:Pa).p=objP from dir_inc,toL_eq,decide_eq_false (obj_ne_dir h)]
 rfl
theorem in_move_dir (id:List UInt8) (x:Option Nat):inP (dirP id) ⟨1,incP,fileP id,x⟩=true:=by
 unfold inP inB
 rw [show dirOf (⟨1,incP,fileP id,x⟩:Pa).to=dirP id from dir_file id,toL_eq (dirP id)]
 simp
theorem moved_sure {n:Nm} {id:List UInt8} (c:Nat) (h1:n (dirP id)=some none) (hl:id.length=32) (h2:n (fileP id)≠some none):doN n ⟨1,incP,fileP id,some c⟩=fun q=>if q=fileP id then some (some c) else if q=incP∧pvN n incP=some c then none else n q:=by
 unfold doN
 have hf:isDir n (fileP id)=false:=isDir_not (ne_nil_of (by rw [file_len hl];decide)) h2
 rw [if_neg (show ¬ (1:Nat)=0 by decide),if_pos rfl,if_pos ⟨by show isDir n (dirOf (fileP id))=true;rw [dir_file];exact isDir_of h1,.inl hf⟩]
theorem one_sure {room:Nat} {id:List UInt8} (hl:id.length=32) (p:ByteArray) (u:Int):(laidS (oneS room id) id p u).sure=keptN id:=by
 have hr:=one_ready (room:=room) hl
 unfold laidS movS
 rw [syncDir_sure,setU_acts,setU_sure,enact_acts,enact_sure]
 have ea:(inS (oneS room id) p).acts=[⟨0,incP,⟨#[]⟩,some 0⟩]:=rfl
 have es:(inS (oneS room id) p).sure=oneN id:=rfl
 have ec:(oneS room id).came=0:=rfl
 rw [ea,es,ec]
 simp only [List.cons_append,List.nil_append,List.filter_cons,in_inc_dir hl,in_move_dir,List.filter_nil,if_true,Bool.false_eq_true,if_false,List.foldl_cons,List.foldl_nil]
 rw [moved_sure (n:=oneN id) 0 hr.dir hl hr.file]
 funext q
 unfold keptN
 by_cases e:q=fileP id
 ·simp [e]
 ·rw [if_neg e,if_neg e]
  have hi:oneN id incP=none:=hr.inc
  rw [if_neg (fun h=>by have:=h.2;unfold pvN at this;rw [hi] at this;cases this)]
theorem one_file (room:Nat) (id:List UInt8) (p:ByteArray) (u:Int):(laidS (oneS room id) id p u).files 0=⟨p,p⟩:=by
 rw [laid_files]
 rfl
section
variable {n0:Nat} {A:Nat→Prop} {b:Nat} {w w':World} {fb room:Nat} {S:Fs}
theorem mf_one (h:St P0 n0 A b w fb (baseS room)) (hb:b < 880) {id:List UInt8} (hl:id.length=32) :
  Calls Tryz.prog 67 #[.pointer (some ⟨fb,0,none⟩),.string objP,.string (dirP id)] w fun e w'=>e=.returned (.int .i64 0)∧StTo P0 n0 A (b + 2) w fb (oneS room id) w':=by
 have e2:(baseS room).syE (dirP id)=2:=sy_none (dirP_path hl) (base_dir hl)
 have e0:(baseS room).mkE (dirP id)=0:=by
  unfold Fs.mkE
  rw [if_pos (dirP_path hl),dir_dir,show (baseS room).now=baseN from rfl,isDir_of base_obj,base_dir hl]
  rfl
 have en:((baseS room).enact ⟨0,dirP id,⟨#[]⟩,none⟩).nfE objP=0:=by
  refine nf_of objP_path ?_
  rw [enact_now,show (baseS room).now=baseN from rfl,do_dir hl]
  exact (one_ready (room:=room) hl).obj
 have:=mf_made h (by omega) objP (dirP id) (by rw [objP_size];decide) (by rw [dirP_size hl];decide) (by rw [e2];decide) (by rw [e2];decide) e0 en
 rw [one_eq room hl] at this
 exact this
theorem put_base (h:St P0 n0 A b w fb (baseS room)) (hb:b < 860) (body:List UInt8) (hbl:body.length≤262144) :
  Calls Tryz.prog 15 #[.pointer (some ⟨fb,0,none⟩),.string (Vc.bs (Ob.rawL 1 body))] w fun e w' =>
   (room < (prP (Ob.rawL 1 body)).size∧e=.returned (.tuple #[.string ⟨#[]⟩,.int .i64 33])∧StTo P0 n0 A (b + 2) w fb (oneS room (idL (Ob.rawL 1 body))) w') ∨
   ((prP (Ob.rawL 1 body)).size≤room∧e=.returned (.tuple #[.string (Vc.bs (idL (Ob.rawL 1 body))),.int .i64 0])∧∃ u,StTo P0 n0 A (b + 6) w fb (laidS (oneS room (idL (Ob.rawL 1 body))) (idL (Ob.rawL 1 body)) (prP (Ob.rawL 1 body)) u) w'):=by
 have hrl:=Ob.raw_len 1 body (by omega)
 have HLB:=links_blob body hbl w h.ok.ok
 obtain ⟨raw,hraw⟩:∃ raw,Ob.rawL 1 body=raw:=⟨_,rfl⟩
 rw [hraw] at hrl HLB ⊢
 have hr:raw.length≤1048576:=by omega
 have hl:=id_len raw
 have hps:=press_le raw hr
 have hn:(baseS room).now (fileP (idL raw))=none:=by
  show baseN (fileP (idL raw))=none
  rw [baseN,if_neg (Ne.symm (obj_ne_file hl))]
 have hL:Calls Tryz.prog 37 #[.string (Vc.bs raw)] w fun e w'=>(∃ v,e=.returned (.tuple #[v,.int .i64 0]))∧Below w.heap.size w w':=HLB.mono fun e w' ⟨he,hb⟩=>⟨⟨_,he⟩,hb⟩
 have hpos:0 < (prP raw).size:=by
  rw [prP,Vc.bs_size,Ld.Lz.press,List.length_append]
  have h1:0 < (Cb.Cd.numL raw.length).length:=by
   rw [Cb.Cd.numL,List.length_reverse,Cb.Cd.numR,List.length_cons]
   omega
  omega
 have hy:∀ X,Kept [] w X→Calls Tryz.prog 40 #[.pointer (some ⟨fb,0,none⟩),.string (Vc.bs (idL raw)),.string (prP raw)] X fun e w'=>(Full 0 room ((prP raw).size:Int)∧e=.returned (.int .i64 33)∧StTo P0 n0 A (b + 2) w fb (oneS room (idL raw)) w')∨(¬ Full 0 room ((prP raw).size:Int)∧e=.returned (.int .i64 0)∧∃ u,StTo P0 n0 A (b + 6) w fb (laidS (oneS room (idL raw)) (idL raw) (prP raw) u) w'):=fun X hX=>by
  refine (lay_any (idL raw) hl (prP raw) (by omega) (one_ready (room:=room) hl) (b:=b + 2) (n0:=n0) (A:=A) (by omega) (fun Y hY=>(mf_one ((h.kept hX).kept hY) (by omega) hl).mono fun e w' ⟨he,hs⟩=>⟨he,StTo.step (fun _ hg=>.inl hg) (Out.kept hY) hs⟩)).mono fun e w' hr'=>?_
  rcases hr' with ⟨h1,h2,h3⟩ | ⟨h1,h2,u,_,h3⟩
  ·exact .inl ⟨h1,h2,StTo.step (fun _ hg=>.inl hg) (Out.kept hX) h3⟩
  ·exact .inr ⟨h1,h2,u,StTo.step (fun _ hg=>.inl hg) (Out.kept hX) h3⟩
 have hg:∀ X,Kept [] w X→Calls Tryz.prog 19 #[.pointer (some ⟨fb,0,none⟩),.string (Vc.bs (idL raw))] X fun e w'=>e=.returned (.tuple #[.string ⟨#[]⟩,.int .i64 2])∧Kept [] X w':=fun X hX=>get_gone (h.kept hX) (idL raw) hl hn
 have hok:∀ X,Kept [] w X→Ob.Ok X:=fun X hX=>(h.kept hX).ok.ok
 by_cases hfu:room < (prP raw).size
 ·have hF:Full 0 room ((prP raw).size:Int):=⟨by omega,by omega⟩
  refine (put_lay raw hr hok hL 2 (by decide) hg 33 (StTo P0 n0 A (b + 2) w fb (oneS room (idL raw))) (fun X hX=>(hy X hX).mono fun e w' hr'=>?_)).mono fun e w' ⟨he,hs⟩=>.inl ⟨hfu,?_,hs⟩
  ·rcases hr' with ⟨_,h2,h3⟩ | ⟨h1,_⟩
   ·exact ⟨h2,h3⟩
   ·exact absurd hF h1
  ·rw [if_neg (by decide)] at he
   exact he
 ·have hF:¬ Full 0 room ((prP raw).size:Int):=fun hF=>hfu (by have:=hF.1;omega)
  refine (put_lay raw hr hok hL 2 (by decide) hg 0 (fun w'=>∃ u,StTo P0 n0 A (b + 6) w fb (laidS (oneS room (idL raw)) (idL raw) (prP raw) u) w') (fun X hX=>(hy X hX).mono fun e w' hr'=>?_)).mono fun e w' ⟨he,hs⟩=>.inr ⟨by omega,?_,hs⟩
  ·rcases hr' with ⟨h1,_⟩ | ⟨_,h2,h3⟩
   ·exact absurd h1 hF
   ·exact ⟨h2,h3⟩
  ·rw [if_pos rfl] at he
   exact he
end
end Go.Proofs.YtogjlepdejonpaaGreatDoor.Lo
namespace Go.Proofs.YtogjlepdejonpaaGreatDoor.Lo
open Vc Go.RowKit Go.Shelf
structure Kp (S:Fs) (K:List (List UInt8)):Prop where
 len:∀ id ∈ K,id.length=32
 nd:K.Nodup
 obj:S.now objP=some none
 inc:S.now incP=none
 dir:∀ id ∈ K,S.now (dirP id)=some none
 dirs:∀ id:List UInt8,id.length=32→(S.now (dirP id)=none∨S.now (dirP id)=some none)∧S.sure (dirP id)=S.now (dirP id)
 file:∀ id ∈ K,∃ x raw,x < S.came∧S.now (fileP id)=some (some x)∧S.files x=⟨prP raw,prP raw⟩∧idL raw=id∧raw.length≤1048576
 only:∀ q,S.now q≠none→q=objP∨(∃ id:List UInt8,id.length=32∧q=dirP id)∨∃ id ∈ K,q=fileP id
 sobj:S.sure objP=some none
 sinc:S.sure incP≠some none
 sfile:∀ id:List UInt8,id.length=32→S.sure (fileP id)=S.now (fileP id)
 sonly:∀ q,S.sure q≠none→q=objP∨q=incP∨(∃ id:List UInt8,id.length=32∧q=dirP id)∨∃ id ∈ K,q=fileP id
 acts:∀ a ∈ S.acts,∃ x,a=⟨0,incP,⟨#[]⟩,some x⟩∧x < S.came
 sub:∀ x,S.sure incP=some (some x)→x < S.came
theorem base_at (q:ByteArray) (hq:q≠objP):baseN q=none:=by unfold baseN;rw [if_neg hq]
theorem kp_base (room:Nat):Kp (baseS room) []:=by
 have hb:∀ q,baseN q≠none→q=objP:=fun q hq=>by
  by_cases e:q=objP
  ·exact e
  ·exact absurd (base_at q e) hq
 refine ⟨fun _ h=>(by cases h),List.nodup_nil,base_obj,base_at _ (Ne.symm obj_ne_inc),fun _ h=>(by cases h),fun id hl=>⟨.inl (base_at _ (Ne.symm (obj_ne_dir hl))),rfl⟩,fun _ h=>(by cases h),fun q hq=>.inl (hb q hq),base_obj,?_,fun _ _=>rfl,fun q hq=>.inl (hb q hq),fun _ h=>(by cases h),fun x hx=>?_⟩
 ·show baseN incP≠some none
  rw [base_at _ (Ne.symm obj_ne_inc)]
  simp
 ·have hx':baseN incP=some (some x):=hx
  rw [base_at _ (Ne.symm obj_ne_inc)] at hx'
  cases hx'
theorem comes_at (n:Nm) (a:Pa) (hk:a.kind=0) (q:ByteArray):doN n a q=n q∨(q=a.p∧n q=none∧doN n a q=some a.f):=by
 unfold doN
 rw [if_pos hk]
 by_cases h:n a.p=none∧isDir n (dirOf a.p)=true
 ·rw [if_pos h]
  by_cases e:q=a.p
  ·right
   subst e
   exact ⟨rfl,h.1,by simp⟩
  ·left
   simp [e]
 ·rw [if_neg h]
  exact .inl rfl
theorem incs_at:∀ (l:List Pa) (n:Nm),(∀ a ∈ l,∃ x,a=(⟨0,incP,⟨#[]⟩,some x⟩:Pa))→(∀ q,q≠incP→l.foldl doN n q=n q)∧(n incP≠some none→l.foldl doN n incP≠some none)∧∀ x,l.foldl doN n incP=some (some x)→n incP=some (some x)∨∃ a ∈ l,a.f=some x
 | [],n,_=>⟨fun _ _=>rfl,fun h=>h,fun x h=>.inl h⟩
 | a :: t,n,h=>by
  obtain ⟨x,hx⟩:=h a (by simp)
  obtain ⟨h1,h2,h3⟩:=incs_at t (doN n a) (fun b hb=>h b (List.mem_cons_of_mem _ hb))
  have hc:=comes_at n a (by rw [hx])
  refine ⟨fun q hq=>?_,fun hn=>?_,fun y hy=>?_⟩
  ·rw [List.foldl_cons,h1 q hq]
   rcases hc q with e | ⟨e,_⟩
   ·exact e
   ·rw [hx] at e;exact absurd e hq
  ·rw [List.foldl_cons]
   refine h2 ?_
   rcases hc incP with e | ⟨_,_,e⟩
   ·rw [e];exact hn
   ·rw [e,hx];simp
  ·rw [List.foldl_cons] at hy
   rcases h3 y hy with e | ⟨b,hb,e⟩
   ·rcases hc incP with e2 | ⟨_,_,e2⟩
    ·rw [e2] at e;exact .inl e
    ·rw [e2] at e
     simp only [Option.some.injEq] at e
     exact .inr ⟨a,by simp,e⟩
   ·exact .inr ⟨b,List.mem_cons_of_mem _ hb,e⟩
theorem in_inc_obj (x:Option Nat):inP objP ⟨0,incP,⟨#[]⟩,x⟩=true:=by
 unfold inP inB
 rw [show dirOf (⟨0,incP,⟨#[]⟩,x⟩:Pa).p=objP from dir_inc]
 simp
theorem filter_in {l:List Pa} (h:∀ a ∈ l,∃ x,a=(⟨0,incP,⟨#[]⟩,some x⟩:Pa)):l.filter (inP objP)=l:=List.filter_eq_self.2 fun a ha=>by
 obtain ⟨x,rfl⟩:=h a ha
 exact in_inc_obj _
theorem filter_out {l:List Pa} {id:List UInt8} (hl:id.length=32) (h:∀ a ∈ l,∃ x,a=(⟨0,incP,⟨#[]⟩,some x⟩:Pa)):l.filter (inP (dirP id))=[]:=List.filter_eq_nil_iff.2 fun a ha=>by
 obtain ⟨x,rfl⟩:=h a ha
 rw [in_inc_dir hl]
 simp
theorem Kp.incs {S:Fs} {K:List (List UInt8)} (h:Kp S K):∀ a ∈ S.acts,∃ x,a=(⟨0,incP,⟨#[]⟩,some x⟩:Pa):=fun a ha=>by
 obtain ⟨x,hx,_⟩:=h.acts a ha
 exact ⟨x,hx⟩
theorem Kp.none {S:Fs} {K:List (List UInt8)} (h:Kp S K) {id:List UInt8} (hl:id.length=32) (hn:id ∉ K):S.now (fileP id)=none:=by
 cases hq:S.now (fileP id) with
 | none=>rfl
 | some v =>
  exfalso
  rcases h.only (fileP id) (by rw [hq];simp) with e | ⟨jd,hj,e⟩ | ⟨jd,hj,e⟩
  ·exact obj_ne_file hl e.symm
  ·exact dir_ne_file hj hl e.symm
  ·exact hn (file_inj hl (h.len jd hj) e ▸ hj)
noncomputable def dirS (S:Fs) (id:List UInt8):Fs:=(S.enact ⟨0,dirP id,⟨#[]⟩,none⟩).syncDir objP
theorem dirS_now {S:Fs} {K:List (List UInt8)} (h:Kp S K) {id:List UInt8} (hd:S.now (dirP id)=Option.none):(dirS S id).now=fun q=>if q=dirP id then some Option.none else S.now q:=by
 unfold dirS
 rw [syncDir_now,enact_now,doN_comes hd (by rw [dir_dir];exact isDir_of h.obj)]
theorem dirS_sure {S:Fs} {K:List (List UInt8)} (h:Kp S K) {id:List UInt8} (hl:id.length=32) (hd:S.now (dirP id)=Option.none):(∀ q,q≠incP→(dirS S id).sure q=if q=dirP id then some Option.none else S.sure q)∧(dirS S id).sure incP≠some Option.none∧∀ x,(dirS S id).sure incP=some (some x)→x < S.came:=by
 obtain ⟨h1,h2,h3⟩:=incs_at S.acts S.sure h.incs
 have hs:(dirS S id).sure=doN (S.acts.foldl doN S.sure) ⟨0,dirP id,⟨#[]⟩,Option.none⟩:=by
  unfold dirS
  rw [syncDir_sure,enact_acts,enact_sure,List.filter_append,filter_in h.incs]
  simp only [List.filter_cons,in_dir_obj,List.filter_nil,if_true,List.foldl_append,List.foldl_cons,List.foldl_nil]
 have hn:S.acts.foldl doN S.sure (dirP id)=Option.none:=by rw [h1 _ (inc_ne_dir hl),(h.dirs id hl).2,hd]
 rw [doN_comes hn (by rw [dir_dir];exact isDir_of (by rw [h1 _ obj_ne_inc];exact h.sobj))] at hs
 rw [hs]
 refine ⟨fun q hq=>?_,?_,fun x hx=>?_⟩
 ·by_cases e:q=dirP id
  ·simp [e]
  ·simp only [if_neg e]
   exact h1 q hq
 ·simp only [if_neg (Ne.symm (inc_ne_dir hl))]
  exact h2 h.sinc
 ·simp only [if_neg (Ne.symm (inc_ne_dir hl))] at hx
  rcases h3 x hx with e | ⟨a,ha,e⟩
  ·exact h.sub x e
  ·obtain ⟨y,rfl,hy⟩:=h.acts a ha
   simp only [Option.some.injEq] at e
   omega
theorem dirS_acts {S:Fs} {K:List (List UInt8)} (h:Kp S K) (id:List UInt8):(dirS S id).acts=[]:=by
 show ((S.enact ⟨0,dirP id,⟨#[]⟩,Option.none⟩).acts).filter (fun a=>!inP objP a)=[]
 rw [enact_acts,List.filter_append,List.filter_eq_nil_iff.2]
 ·simp [in_dir_obj]
 ·intro a ha
  obtain ⟨x,rfl⟩:=h.incs a ha
  simp [in_inc_obj]
theorem dirS_rest (S:Fs) (id:List UInt8):(dirS S id).files=S.files∧(dirS S id).came=S.came∧(dirS S id).used=S.used∧(dirS S id).room=S.room:=⟨rfl,rfl,rfl,rfl⟩
theorem Kp.mkdir {S:Fs} {K:List (List UInt8)} (h:Kp S K) {id:List UInt8} (hl:id.length=32) (hd:S.now (dirP id)=Option.none):Kp (dirS S id) K∧(dirS S id).now (dirP id)=some Option.none:=by
 have hn:=dirS_now h hd
 obtain ⟨s1,s2,s3⟩:=dirS_sure h hl hd
 obtain ⟨r1,r2,_,_⟩:=dirS_rest S id
 have ne:∀ q,q≠dirP id→(dirS S id).now q=S.now q:=fun q hq=>by rw [hn];simp [hq]
 have eq:(dirS S id).now (dirP id)=some Option.none:=by rw [hn];simp
 refine ⟨⟨h.len,h.nd,by rw [ne _ (obj_ne_dir hl)];exact h.obj,by rw [ne _ (Ne.symm (inc_ne_dir hl))];exact h.inc,fun jd hj=>?_,fun jd hj=>?_,fun jd hj=>?_,fun q hq=>?_,?_,s2,fun jd hj=>?_,fun q hq=>?_,fun a ha=>?_,fun x hx=>by rw [r2];exact s3 x hx⟩,eq⟩
 ·by_cases e:dirP jd=dirP id
  ·rw [e];exact eq
  ·rw [ne _ e];exact h.dir jd hj
 ·rw [s1 _ (inc_ne_dir hj)]
  by_cases e:dirP jd=dirP id
  ·rw [e,eq,if_pos rfl]
   exact ⟨.inr rfl,rfl⟩
  ·rw [ne _ e,if_neg e]
   exact h.dirs jd hj
 ·obtain ⟨x,raw,h1,h2,h3⟩:=h.file jd hj
  exact ⟨x,raw,by rw [r2];exact h1,by rw [ne _ (Ne.symm (dir_ne_file hl (h.len jd hj)))];exact h2,by rw [r1];exact h3⟩
 ·by_cases e:q=dirP id
  ·exact .inr (.inl ⟨id,hl,e⟩)
  ·rw [ne q e] at hq
   exact h.only q hq
 ·rw [s1 _ obj_ne_inc,if_neg (obj_ne_dir hl)]
  exact h.sobj
 ·rw [s1 _ (inc_ne_file hj),if_neg (Ne.symm (dir_ne_file hl hj)),ne _ (Ne.symm (dir_ne_file hl hj))]
  exact h.sfile jd hj
 ·by_cases e0:q=incP
  ·exact .inr (.inl e0)
  ·rw [s1 q e0] at hq
   by_cases e:q=dirP id
   ·exact .inr (.inr (.inl ⟨id,hl,e⟩))
   ·rw [if_neg e] at hq
    exact h.sonly q hq
 ·rw [dirS_acts h id] at ha
  cases ha
theorem Kp.ready {S:Fs} {K:List (List UInt8)} (h:Kp S K) {id:List UInt8} (hl:id.length=32) (hd:S.now (dirP id)=some Option.none) (hn:id ∉ K):Ready S id:=⟨h.obj,h.inc,hd,by rw [h.none hl hn];simp⟩
theorem laid_sure {S:Fs} {K:List (List UInt8)} (h:Kp S K) {id:List UInt8} (hl:id.length=32) (hd:S.now (dirP id)=some Option.none) (hn:id ∉ K) (p:ByteArray) (u:Int):(laidS S id p u).sure=fun q=>if q=fileP id then some (some S.came) else S.sure q:=by
 unfold laidS movS
 rw [syncDir_sure,setU_acts,setU_sure,enact_acts,enact_sure]
 have ea:(inS S p).acts=S.acts ++ [⟨0,incP,⟨#[]⟩,some S.came⟩]:=rfl
 have es:(inS S p).sure=S.sure:=rfl
 rw [ea,es,List.filter_append,List.filter_append,filter_out hl h.incs]
 simp only [List.nil_append,List.filter_cons,in_inc_dir hl,in_move_dir,List.filter_nil,if_true,Bool.false_eq_true,if_false,List.foldl_cons,List.foldl_nil]
 rw [moved_sure S.came (by rw [(h.dirs id hl).2];exact hd) hl (by rw [h.sfile id hl,h.none hl hn];simp)]
 funext q
 by_cases e:q=fileP id
 ·simp [e]
 ·rw [if_neg e,if_neg e,if_neg]
  rintro ⟨_,h2⟩
  have:=h.sub S.came (now_of_pv h2)
  omega
theorem laid_acts {S:Fs} {K:List (List UInt8)} (h:Kp S K) {id:List UInt8} (hl:id.length=32) (p:ByteArray) (u:Int):(laidS S id p u).acts=S.acts ++ [⟨0,incP,⟨#[]⟩,some S.came⟩]:=by
 show ((movS S id p u).acts).filter (fun a=>!inP (dirP id) a)=_
 unfold movS
 rw [setU_acts,enact_acts]
 have ea:(inS S p).acts=S.acts ++ [⟨0,incP,⟨#[]⟩,some S.came⟩]:=rfl
 rw [ea,List.filter_append,List.filter_append]
 have e1:S.acts.filter (fun a=>!inP (dirP id) a)=S.acts:=List.filter_eq_self.2 fun a ha=>by
  obtain ⟨x,rfl⟩:=h.incs a ha
  simp [in_inc_dir hl]
 rw [e1]
 simp [in_inc_dir hl,in_move_dir]
theorem syncDir_rest (S:Fs) (q:ByteArray):(S.syncDir q).came=S.came∧(S.syncDir q).used=S.used∧(S.syncDir q).room=S.room:=⟨rfl,rfl,rfl⟩
theorem setU_rest (S:Fs) (u:Int):(setU S u).came=S.came∧(setU S u).room=S.room:=⟨rfl,rfl⟩
theorem enact_rest (S:Fs) (a:Pa):(S.enact a).came=S.came∧(S.enact a).room=S.room:=⟨rfl,rfl⟩
theorem laid_rest (S:Fs) (id:List UInt8) (p:ByteArray) (u:Int):(laidS S id p u).came=S.came + 1∧(laidS S id p u).used=u∧(laidS S id p u).room=S.room:=by
 unfold laidS movS
 obtain ⟨a1,a2,a3⟩:=syncDir_rest (setU ((inS S p).enact ⟨1,incP,fileP id,some S.came⟩) u) (dirP id)
 obtain ⟨c1,c3⟩:=setU_rest ((inS S p).enact ⟨1,incP,fileP id,some S.came⟩) u
 obtain ⟨d1,d3⟩:=enact_rest (inS S p) ⟨1,incP,fileP id,some S.came⟩
 rw [a1,a2,a3,c1,c3,d1,d3]
 exact ⟨rfl,rfl,rfl⟩
theorem Kp.laid {S:Fs} {K:List (List UInt8)} (h:Kp S K) {raw:List UInt8} (hr:raw.length≤1048576) (hd:S.now (dirP (idL raw))=some Option.none) (hn:idL raw ∉ K) (u:Int):Kp (laidS S (idL raw) (prP raw) u) (idL raw :: K):=by
 have hl:=id_len raw
 have hN:=laid_now hl (h.ready hl hd hn) (prP raw) u
 have hU:=laid_sure h hl hd hn (prP raw) u
 have hA:=laid_acts h hl (prP raw) u
 have hF:=laid_files S (idL raw) (prP raw) u
 obtain ⟨hC,_,_⟩:=laid_rest S (idL raw) (prP raw) u
 generalize hid:idL raw=id at hl hd hn hN hU hA hF hC ⊢
 generalize laidS S id (prP raw) u=T at hN hU hA hF hC ⊢
 have ne:∀ q,q≠fileP id→T.now q=S.now q:=fun q hq=>by rw [hN];simp [hq]
 have eq:T.now (fileP id)=some (some S.came):=by rw [hN];simp
 have se:∀ q,q≠fileP id→T.sure q=S.sure q:=fun q hq=>by rw [hU];simp [hq]
 refine ⟨fun jd hj=>?_,List.nodup_cons.2 ⟨hn,h.nd⟩,by rw [ne _ (obj_ne_file hl)];exact h.obj,by rw [ne _ (Ne.symm (inc_ne_file hl))];exact h.inc,fun jd hj=>?_,fun jd hj=>?_,fun jd hj=>?_,fun q hq=>?_,by rw [se _ (obj_ne_file hl)];exact h.sobj,by rw [se _ (Ne.symm (inc_ne_file hl))];exact h.sinc,fun jd hj=>?_,fun q hq=>?_,fun a ha=>?_,fun x hx=>?_⟩
 ·rcases List.mem_cons.1 hj with rfl | hj
  ·exact hl
  ·exact h.len jd hj
 ·have hjl:jd.length=32:=by
   rcases List.mem_cons.1 hj with rfl | hj
   ·exact hl
   ·exact h.len jd hj
  rw [ne _ (dir_ne_file hjl hl)]
  rcases List.mem_cons.1 hj with rfl | hj
  ·exact hd
  ·exact h.dir jd hj
 ·rw [ne _ (dir_ne_file hj hl),se _ (dir_ne_file hj hl)]
  exact h.dirs jd hj
 ·rcases List.mem_cons.1 hj with rfl | hj
  ·exact ⟨S.came,raw,by omega,eq,by rw [hF];simp [updF],hid,hr⟩
  ·obtain ⟨x,r',h1,h2,h3,h4⟩:=h.file jd hj
   refine ⟨x,r',by omega,?_,?_,h4⟩
   ·rw [ne _ (fun e=>hn (file_inj (h.len jd hj) hl e ▸ hj))]
    exact h2
   ·rw [hF]
    simp only [updF]
    rw [if_neg (by omega),if_neg (by omega)]
    exact h3
 ·by_cases e:q=fileP id
  ·exact .inr (.inr ⟨id,by simp,e⟩)
  ·rw [ne q e] at hq
   rcases h.only q hq with h1 | h1 | ⟨jd,hj,h1⟩
   ·exact .inl h1
   ·exact .inr (.inl h1)
   ·exact .inr (.inr ⟨jd,List.mem_cons_of_mem _ hj,h1⟩)
 ·by_cases e:fileP jd=fileP id
  ·rw [e,hU,hN]
   simp
  ·rw [ne _ e,se _ e]
   exact h.sfile jd hj
 ·by_cases e:q=fileP id
  ·exact .inr (.inr (.inr ⟨id,by simp,e⟩))
  ·rw [se q e] at hq
   rcases h.sonly q hq with h1 | h1 | h1 | ⟨jd,hj,h1⟩
   ·exact .inl h1
   ·exact .inr (.inl h1)
   ·exact .inr (.inr (.inl h1))
   ·exact .inr (.inr (.inr ⟨jd,List.mem_cons_of_mem _ hj,h1⟩))
 ·rw [hA] at ha
  rcases List.mem_append.1 ha with ha | ha
  ·obtain ⟨x,h1,h2⟩:=h.acts a ha
   exact ⟨x,h1,by omega⟩
  ·simp at ha
   exact ⟨S.came,ha,by omega⟩
 ·rw [se _ (Ne.symm (inc_ne_file hl))] at hx
  have:=h.sub x hx
  omega
end Go.Proofs.YtogjlepdejonpaaGreatDoor.Lo
namespace Go.Proofs.YtogjlepdejonpaaGreatDoor.Lo
open Vc Go.RowKit Go.Shelf
section
variable {n0:Nat} {A:Nat→Prop} {b:Nat} {w w':World} {fb:Nat} {S:Fs} {K:List (List UInt8)}
end
end Go.Proofs.YtogjlepdejonpaaGreatDoor.Lo
namespace Go.Proofs.YtogjlepdejonpaaGreatDoor.Lo
open Vc Go.RowKit Go.Shelf
section
variable {n0:Nat} {A:Nat→Prop} {b:Nat} {w w':World} {fb:Nat} {S:Fs} {K:List (List UInt8)} {id:List UInt8}
theorem read_file (h:St P0 n0 A b w fb S) (hl:id.length=32) {x:Nat} (hn:S.now (fileP id)=some (some x)) :
  Calls Tryz.prog 33 #[.pointer (some ⟨fb,0,none⟩),.string (fileP id)] w fun e w'=>e=.returned (.tuple #[.string (S.files x).now,.int .i64 0])∧Kept [] w w':=by
 have e0:S.syE (fileP id)=0:=sy_file (fileP_path hl) hn
 refine (read_rep h.rep (calm_nil _ _) (fileP id) (by rw [fileP_size hl];decide)).mono fun e w' ⟨hk,hr⟩=>?_
 rcases hr with ⟨h0,_⟩ | ⟨_,y,hy,_,he⟩
 ·exact absurd e0 h0
 ·rw [hn] at hy
  simp only [Option.some.injEq] at hy
  subst hy
  exact ⟨he,hk⟩
set_option maxHeartbeats 800000 in
set_option maxRecDepth 100000 in
theorem has_kp (h:St P0 n0 A b w fb S) (hl:id.length=32) {x:Nat} (hn:S.now (fileP id)=some (some x)) :
  Calls Tryz.prog 25 #[.pointer (some ⟨fb,0,none⟩),.string (Vc.bs id)] w fun e w'=>e=.returned (.bool true)∧Kept [] w w':=by
 have HP:=hideIt (path_any id hl w)
 have HR:=hideIt (fun X (hX:Kept [] w X)=>read_file (h.kept hX) hl hn)
 clear h hn hl
 generalize (S.files x).now=p at HR
 generalize fileP id=q at HP HR
 generalize Vc.bs id=i at HP ⊢
 go_enter Tryz.func25,Tryz.ntmps25
 go_wp2_with (first | (go_at_call 24;refine HP.out.mono ?_;rintro e w1 ⟨rfl,hb1⟩) | (go_at_call 33;refine (HR.out _ (Kept.of_below hb1)).mono ?_;rintro e w2 ⟨rfl,hk2⟩))
 go_ret
 exact ⟨rfl,below_kept hb1 hk2⟩
end
end Go.Proofs.YtogjlepdejonpaaGreatDoor.Lo
namespace Go.Proofs.YtogjlepdejonpaaGreatDoor.Lo
open Vc Go.RowKit Go.Shelf
def Fo (S:Fs) (K:List (List UInt8)) (P:List UInt8→Prop):Prop:=∀ id ∈ K,∃ x raw,x < S.came∧S.now (fileP id)=some (some x)∧S.files x=⟨prP raw,prP raw⟩∧idL raw=id∧raw.length≤1048576∧P raw
theorem Fo.mkdir {S:Fs} {K:List (List UInt8)} {P:List UInt8→Prop} (h:Fo S K P) (hK:Kp S K) {id:List UInt8} (hl:id.length=32) (hd:S.now (dirP id)=Option.none):Fo (dirS S id) K P:=fun jd hj=>by
 obtain ⟨x,raw,h1,h2,h3⟩:=h jd hj
 obtain ⟨r1,r2,_,_⟩:=dirS_rest S id
 refine ⟨x,raw,by rw [r2];exact h1,?_,by rw [r1];exact h3⟩
 rw [dirS_now hK hd]
 simp only [if_neg (Ne.symm (dir_ne_file hl (hK.len jd hj)))]
 exact h2
theorem Fo.laid {S:Fs} {K:List (List UInt8)} {P:List UInt8→Prop} (h:Fo S K P) (hK:Kp S K) {raw:List UInt8} (hr:raw.length≤1048576) (hd:S.now (dirP (idL raw))=some Option.none) (hn:idL raw ∉ K) (u:Int) (hP:P raw):Fo (laidS S (idL raw) (prP raw) u) (idL raw :: K) P:=by
 have hl:=id_len raw
 have hN:=laid_now hl (hK.ready hl hd hn) (prP raw) u
 have hF:=laid_files S (idL raw) (prP raw) u
 obtain ⟨hC,_,_⟩:=laid_rest S (idL raw) (prP raw) u
 intro jd hj
 rcases List.mem_cons.1 hj with rfl | hj
 ·exact ⟨S.came,raw,by omega,by rw [hN];simp,by rw [hF];simp [updF],rfl,hr,hP⟩
 ·obtain ⟨x,r',h1,h2,h3,h4⟩:=h jd hj
  refine ⟨x,r',by omega,?_,?_,h4⟩
  ·rw [hN]
   simp only [if_neg (fun e=>hn (file_inj (hK.len jd hj) hl e ▸ hj))]
   exact h2
  ·rw [hF]
   simp only [updF]
   rw [if_neg (by omega),if_neg (by omega)]
   exact h3
theorem Fo.mono {S:Fs} {K:List (List UInt8)} {P Q:List UInt8→Prop} (h:Fo S K P) (hPQ:∀ r,P r→Q r):Fo S K Q:=fun id hi=>by
 obtain ⟨x,raw,h1,h2,h3,h4,h5,h6⟩:=h id hi
 exact ⟨x,raw,h1,h2,h3,h4,h5,hPQ raw h6⟩
section
variable {n0:Nat} {A:Nat→Prop} {b:Nat} {w w':World} {fb:Nat} {S:Fs} {K:List (List UInt8)} {id:List UInt8}
theorem mf_kpx (h:St P0 n0 A b w fb S) (hK:Kp S K) (hb:b < 880) {id:List UInt8} (hl:id.length=32) :
  ∃ S1 b1,b1≤b + 2∧Kp S1 K∧S1.now (dirP id)=some none∧S1.used=S.used∧S1.room=S.room∧(∀ P,Fo S K P→Fo S1 K P)∧∀ X,Kept [] w X→Calls Tryz.prog 67 #[.pointer (some ⟨fb,0,none⟩),.string objP,.string (dirP id)] X fun e w'=>e=.returned (.int .i64 0)∧StTo P0 n0 A b1 X fb S1 w':=by
 rcases (hK.dirs id hl).1 with hd | hd
 ·obtain ⟨k1,k2⟩:=hK.mkdir hl hd
  obtain ⟨_,_,r3,r4⟩:=dirS_rest S id
  refine ⟨dirS S id,b + 2,Nat.le_refl _,k1,k2,r3,r4,fun P hP=>hP.mkdir hK hl hd,fun X hX=>?_⟩
  have e2:S.syE (dirP id)=2:=sy_none (dirP_path hl) hd
  have e0:S.mkE (dirP id)=0:=by
   unfold Fs.mkE
   rw [if_pos (dirP_path hl),dir_dir,isDir_of hK.obj,hd]
   rfl
  have en:(S.enact ⟨0,dirP id,⟨#[]⟩,none⟩).nfE objP=0:=by
   refine nf_of objP_path ?_
   rw [enact_now,doN_comes hd (by rw [dir_dir];exact isDir_of hK.obj)]
   simp only [if_neg (obj_ne_dir hl)]
   exact hK.obj
  exact (mf_made (h.kept hX) (by omega) objP (dirP id) (by rw [objP_size];decide) (by rw [dirP_size hl];decide) (by rw [e2];decide) (by rw [e2];decide) e0 en)
 ·refine ⟨S,b,by omega,hK,hd,rfl,rfl,fun P hP=>hP,fun X hX=>?_⟩
  have e2:S.syE (dirP id)=31:=sy_dir (dirP_path hl) hd
  exact (mf_there (h.kept hX) objP (dirP id) (by rw [dirP_size hl];decide) e2).mono fun e w' ⟨he,hk⟩=>⟨he,StTo.kept (h.kept hX) hk⟩
theorem put_kpx (h:St P0 n0 A b w fb S) (hK:Kp S K) (hb:b < 860) (raw:List UInt8) (hr:raw.length≤1048576) (hroom:S.used + ((prP raw).size:Int)≤S.room)
  (HL:Calls Tryz.prog 37 #[.string (Vc.bs raw)] w fun e w'=>(∃ v,e=.returned (.tuple #[v,.int .i64 0]))∧Below w.heap.size w w') :
  Calls Tryz.prog 15 #[.pointer (some ⟨fb,0,none⟩),.string (Vc.bs raw)] w fun e w'=>e=.returned (.tuple #[.string (Vc.bs (idL raw)),.int .i64 0]) ∧
   ∃ S' b' K',b'≤b + 6∧Kp S' K'∧S'.used≤S.used + ((prP raw).size:Int)∧S'.room=S.room∧(∀ id,id ∈ K'↔id=idL raw∨id ∈ K)∧(∀ P,Fo S K P→P raw→Fo S' K' P)∧StTo P0 n0 A b' w fb S' w':=by
 have hl:=id_len raw
 have hps:=press_le raw hr
 have hok:∀ X,Kept [] w X→Ob.Ok X:=fun X hX=>(h.kept hX).ok.ok
 by_cases hi:idL raw ∈ K
 ·obtain ⟨x,raw',_,h2,h3,h4,h5⟩:=hK.file _ hi
  have hg:∀ X,Kept [] w X→Calls Tryz.prog 19 #[.pointer (some ⟨fb,0,none⟩),.string (Vc.bs (idL raw))] X fun e w'=>e=.returned (.tuple #[.string (Vc.bs raw'),.int .i64 0])∧Kept [] X w':=fun X hX=>by
   refine (get_there (h.kept hX) _ hl h2).mono fun e w' ⟨he,hk⟩=>⟨?_,hk⟩
   rw [he,h3]
   show Ending.returned (getV (getR (prP raw') (idL raw)))=_
   rw [← h4,get_press raw' h5]
   rfl
  refine (put_same raw hr hok HL hg).mono fun e w' ⟨he,hk⟩=>⟨he,S,b,K,by omega,hK,by omega,rfl,fun id=>⟨.inr,fun h'=>h'.elim (fun e=>e ▸ hi) (fun e=>e)⟩,fun P hP _=>hP,StTo.kept h hk⟩
 ·obtain ⟨S1,b1,hb1,k1,k2,k3,k4,kF,hmf⟩:=mf_kpx h hK (by omega) hl
  have hF:¬ Full S1.used S1.room ((prP raw).size:Int):=fun hF=>by
   have:=hF.1
   rw [k3,k4] at this
   omega
  have hg:∀ X,Kept [] w X→Calls Tryz.prog 19 #[.pointer (some ⟨fb,0,none⟩),.string (Vc.bs (idL raw))] X fun e w'=>e=.returned (.tuple #[.string ⟨#[]⟩,.int .i64 2])∧Kept [] X w':=fun X hX=>get_gone (h.kept hX) (idL raw) hl (hK.none hl hi)
  have hy:∀ X,Kept [] w X→Calls Tryz.prog 40 #[.pointer (some ⟨fb,0,none⟩),.string (Vc.bs (idL raw)),.string (prP raw)] X fun e w'=>e=.returned (.int .i64 0)∧∃ u,u≤S1.used + ((prP raw).size:Int)∧StTo P0 n0 A (b1 + 4) w fb (laidS S1 (idL raw) (prP raw) u) w':=fun X hX=>by
   refine (lay_any (idL raw) hl (prP raw) (by omega) (k1.ready hl k2 hi) (b:=b1) (n0:=n0) (A:=A) (by omega) (w:=X) (fun Y hY=>(hmf Y ((hX.trans hY).sub (by simp))).mono fun e w' ⟨he,hs⟩=>⟨he,StTo.step (fun _ hg=>.inl hg) (Out.kept hY) hs⟩)).mono fun e w' hr'=>?_
   rcases hr' with ⟨h1,_⟩ | ⟨_,h2,u,hu,h3⟩
   ·exact absurd h1 hF
   ·exact ⟨h2,u,hu,StTo.step (fun _ hg=>.inl hg) (Out.kept hX) h3⟩
  refine (put_lay raw hr hok HL 2 (by decide) hg 0 (fun w'=>∃ u,u≤S1.used + ((prP raw).size:Int)∧StTo P0 n0 A (b1 + 4) w fb (laidS S1 (idL raw) (prP raw) u) w') hy).mono fun e w' ⟨he,u,hu,hs⟩=>?_
  rw [if_pos rfl] at he
  obtain ⟨_,r2,r3⟩:=laid_rest S1 (idL raw) (prP raw) u
  exact ⟨he,_,b1 + 4,idL raw :: K,by omega,k1.laid hr k2 hi u,by rw [r2];omega,by rw [r3,k4],fun id=>List.mem_cons,fun P hP hr'=>(kF P hP).laid k1 hr k2 hi u hr',hs⟩
theorem read_fo {P:List UInt8→Prop} (h:St P0 n0 A b w fb S) (hK:Kp S K) (hF:Fo S K P) (hi:id ∈ K) :
  ∃ raw,idL raw=id∧raw.length≤1048576∧P raw∧(∀ X,Kept [] w X→Calls Tryz.prog 33 #[.pointer (some ⟨fb,0,none⟩),.string (fileP id)] X fun e w'=>e=.returned (.tuple #[.string (prP raw),.int .i64 0])∧Kept [] X w') ∧
   (∀ X,Kept [] w X→Calls Tryz.prog 19 #[.pointer (some ⟨fb,0,none⟩),.string (Vc.bs id)] X fun e w'=>e=.returned (.tuple #[.string (Vc.bs raw),.int .i64 0])∧Kept [] X w') ∧
   ∀ X,Kept [] w X→Calls Tryz.prog 25 #[.pointer (some ⟨fb,0,none⟩),.string (Vc.bs id)] X fun e w'=>e=.returned (.bool true)∧Kept [] X w':=by
 obtain ⟨x,raw,_,h2,h3,h4,h5,h6⟩:=hF id hi
 refine ⟨raw,h4,h5,h6,fun X hX=>(read_file (h.kept hX) (hK.len id hi) h2).mono fun e w' ⟨he,hk⟩=>⟨by rw [he,h3],hk⟩,fun X hX=>(get_there (h.kept hX) id (hK.len id hi) h2).mono fun e w' ⟨he,hk⟩=>⟨?_,hk⟩,fun X hX=>has_kp (h.kept hX) (hK.len id hi) h2⟩
 rw [he,h3]
 show Ending.returned (getV (getR (prP raw) id))=_
 rw [← h4,get_press raw h5]
 rfl
set_option maxHeartbeats 800000 in
set_option maxRecDepth 100000 in
theorem put_bad (r:ByteArray) (z:Int) (hz:z≠0) (w:World) (fb:Nat) (HL:Calls Tryz.prog 37 #[.string r] w fun e w'=>(∃ v,e=.returned (.tuple #[v,.int .i64 z]))∧Below w.heap.size w w') :
  Calls Tryz.prog 15 #[.pointer (some ⟨fb,0,none⟩),.string r] w fun e w'=>e=.returned (.tuple #[.string ⟨#[]⟩,.int .i64 z])∧Kept [] w w':=by
 have HLK:=hideIt HL
 have z2:(z == 0)=false:=beq_eq_false_iff_ne.2 hz
 clear HL
 go_enter Tryz.func15,Tryz.ntmps15
 go_wp2_with (first | (go_at_call 37;refine HLK.out.mono ?_;rintro e w1 ⟨⟨v1,rfl⟩,hb1⟩))
 go_ret2
 exact ⟨rfl,Kept.of_below hb1⟩
end
end Go.Proofs.YtogjlepdejonpaaGreatDoor.Lo
namespace Go.Proofs.YtogjlepdejonpaaGreatDoor.Lo
open Vc Go.RowKit Go.Shelf
theorem last_of (a b:List UInt8) (hb:(47:UInt8) ∉ b):Lib.lastIndexByte (Vc.bs (a ++ 47 :: b)) 47=(a.length:Int):=by
 have hsz:(Vc.bs (a ++ 47 :: b)).size=a.length + (b.length + 1):=by rw [Vc.bs_size];simp
 have hl:(Vc.bs (a ++ 47 :: b)).data.toList=a ++ 47 :: b:=Vc.bs_list _
 have hat:∀ j (hj:j < (Vc.bs (a ++ 47 :: b)).size),(Vc.bs (a ++ 47 :: b)).data[j]! = (a ++ 47 :: b)[j]'(by simp;omega):=fun j hj=>by
  rw [getD_at _ j hj]
  simp only [hl]
 have h47:((a ++ 47 :: b)[a.length]'(by simp))=47:=by simp
 rcases Lib.lastIndexByte_spec (Vc.bs (a ++ 47 :: b)) 47 with ⟨_,h2⟩ | ⟨i,h1,h2,h3,h4⟩
 ·have:=h2 a.length (by omega)
  rw [hat a.length (by omega),h47] at this
  exact absurd rfl this
 ·rw [h2]
  by_cases hlt:i < a.length
  ·have:=h4 a.length hlt (by omega)
   rw [hat a.length (by omega),h47] at this
   exact absurd rfl this
  ·by_cases he:i=a.length
   ·rw [he]
   ·exfalso
    rw [hat i h1] at h3
    obtain ⟨k,rfl⟩:∃ k,i=a.length + (k + 1):=⟨i - a.length - 1,by omega⟩
    have hlen:k < b.length:=by omega
    have e1:(a ++ 47 :: b)[a.length + (k + 1)]? = b[k]?:=by
     rw [List.getElem?_append_right (by omega),Nat.add_sub_cancel_left,List.getElem?_cons_succ]
    rw [List.getElem?_eq_getElem (by simp;omega),List.getElem?_eq_getElem hlen] at e1
    rw [Option.some.inj e1] at h3
    have h47n:(47:UInt8).toNat=47:=rfl
    have:b[k]'hlen=47:=UInt8.toNat_inj.1 (by rw [h47n];omega)
    exact hb (this ▸ List.getElem_mem hlen)
theorem tail_of (a b:List UInt8) (hb:(47:UInt8) ∉ b):(Vc.bs (a ++ 47 :: b)).extract (Lib.lastIndexByte (Vc.bs (a ++ 47 :: b)) 47 + 1).toNat (Vc.bs (a ++ 47 :: b)).size=Vc.bs b:=by
 rw [last_of a b hb,ext_bs,Vc.bs_size]
 have e:((a.length:Int) + 1).toNat=a.length + 1:=by omega
 rw [e]
 congr 1
 rw [List.extract_eq_take_drop,List.drop_append]
 simp only [List.length_append,List.length_cons]
 rw [List.drop_of_length_le (by omega),List.nil_append,show a.length + 1 - a.length=1 by omega,List.drop_succ_cons,List.drop_zero]
 exact List.take_of_length_le (by omega)
theorem name_dir (id:List UInt8):nameB true (dirP id)=Vc.bs (Cb.Cd.hexL (id.take 1) ++ [47]):=by
 unfold nameB
 rw [if_pos rfl,dirP,dirL,tail_of _ _ (hex_all _).2.1]
 show _ ++ Vc.bs [47]=_
 rw [cat_bs]
theorem name_file (id:List UInt8):nameB false (fileP id)=Vc.bs (Cb.Cd.hexL (id.drop 1)):=by
 unfold nameB
 rw [if_neg (by decide),fileP,fileL,tail_of _ _ (hex_all _).2.1]
theorem slsuf_any (N:ByteArray) (hN:N.size=3) (hE:N.extract 2 3=⟨#[47]⟩) (w:World) :
  Calls Tryz.prog 186 #[.string N,.string ⟨#[47]⟩] w fun e w'=>e=.returned (.bool true)∧w'=w:=by
 have a1:(N.size:Int)=3:=by omega
 go_enter Tryz.func186,Tryz.ntmps186
 go_wp2
 go_ret
 exact ⟨rfl,rfl⟩
theorem slcuts_any (N r:ByteArray) (hN:N.size=3) (hE:N.extract 2 3=⟨#[47]⟩) (hB:N.extract 0 2=r) (w:World) :
  Calls Tryz.prog 148 #[.string N,.string ⟨#[47]⟩] w fun e w'=>e=.returned (.tuple #[.string r,.bool true])∧w'=w:=by
 have H:=hideIt (slsuf_any N hN hE w)
 have a1:(N.size:Int)=3:=by omega
 subst hB
 go_enter Tryz.func148,Tryz.ntmps148
 go_wp2_with (first | (go_at_call 186;refine H.out.mono ?_;rintro e wx ⟨rfl,hwx⟩;obtain rfl:=hwx.symm))
 go_ret2
 exact ⟨rfl,rfl⟩
theorem cuts_any (N r:ByteArray) (hN:N.size=3) (hE:N.extract 2 3=⟨#[47]⟩) (hB:N.extract 0 2=r) (w:World) :
  Calls Tryz.prog 102 #[.string N,.string ⟨#[47]⟩] w fun e w'=>e=.returned (.tuple #[.string r,.bool true])∧w'=w:=by
 have H:=hideIt (slcuts_any N r hN hE hB w)
 clear hN hE hB
 go_enter Tryz.func102,Tryz.ntmps102
 go_wp2_with (first | (go_at_call 148;refine H.out.mono ?_;rintro e wx ⟨rfl,hwx⟩;obtain rfl:=hwx.symm))
 go_ret2
 exact ⟨rfl,rfl⟩
theorem cut_dir (id:List UInt8) (hl:id.length=32) (w:World):Calls Tryz.prog 102 #[.string (nameB true (dirP id)),.string ⟨#[47]⟩] w fun e w'=>e=.returned (.tuple #[.string (Vc.bs (Cb.Cd.hexL (id.take 1))),.bool true])∧w'=w:=by
 have h2:(Cb.Cd.hexL (id.take 1)).length=2:=by rw [Cb.Cd.hexL_len];simp;omega
 rw [name_dir]
 refine cuts_any _ _ (by rw [Vc.bs_size];simp [h2]) ?_ ?_ w
 ·rw [ext_bs]
  show _=Vc.bs [47]
  congr 1
  rw [List.extract_eq_take_drop,List.drop_append_of_le_length (by omega),List.drop_of_length_le (by omega)]
  rfl
 ·rw [ext_bs]
  congr 1
  rw [List.extract_eq_take_drop]
  simp [h2]
theorem trim_any (N P r:ByteArray) (m n:Nat) (hN:N.size=n) (hP:P.size=m) (hm:m≤n) (hE:N.extract 0 m=P) (hB:N.extract m n=r) (w:World) :
  Calls Tryz.prog 106 #[.string N,.string P] w fun e w'=>e=.returned (.string r)∧w'=w:=by
 have hn':(N.size:Int)=(n:Int):=by rw [hN]
 have hm':(P.size:Int)=(m:Int):=by rw [hP]
 have c1:(m:Int)≤(n:Int):=by omega
 have c2:decide ((m:Int)≤(n:Int))=true:=decide_eq_true c1
 have b0:(0:Int)≤(m:Int):=by omega
 have q:((N.extract 0 m).toList == P.toList)=true:=by rw [hE];simp
 have H1:Hid (Calls Tryz.prog 194 #[.string N,.string P] w fun e w'=>e=.returned (.bool true)∧w'=w):=hideIt (by
  go_enter Tryz.func194,Tryz.ntmps194
  go_wp2
  go_ret
  exact ⟨rfl,rfl⟩)
 clear q hE
 subst hB
 have H2:Hid (Calls Tryz.prog 151 #[.string N,.string P] w fun e w'=>e=.returned (.string (N.extract m n))∧w'=w):=hideIt (by
  go_enter Tryz.func151,Tryz.ntmps151
  go_wp2_with (first | (go_at_call 194;refine H1.out.mono ?_;rintro e wx ⟨rfl,hwx⟩;obtain rfl:=hwx.symm))
  go_ret
  exact ⟨rfl,rfl⟩)
 clear H1
 go_enter Tryz.func106,Tryz.ntmps106
 go_wp2_with (first | (go_at_call 151;refine H2.out.mono ?_;rintro e wx ⟨rfl,hwx⟩;obtain rfl:=hwx.symm))
 go_ret
 exact ⟨rfl,rfl⟩
theorem filter_no {l:List UInt8} (h:(47:UInt8) ∉ l):l.filter (fun x=>decide (x≠47))=l:=List.filter_eq_self.2 fun _ hx=>decide_eq_true fun e=>h (e ▸ hx)
theorem replace_rm:∀ (n:Nat) (s:List UInt8),s.length≤n→Lib.replaceK [47] [] (Lib.count s [47]) s=s.filter (fun x=>decide (x≠47)):=by
 intro n
 induction n with
 | zero =>
  intro s h
  have:s=[]:=List.eq_nil_of_length_eq_zero (by omega)
  subst this
  rfl
 | succ n ih =>
  intro s h
  rcases Ob.cut_at 47 s with h0 | ⟨a,r,rfl,ha⟩
  ·rw [Lib.count_miss (Ob.index_none 47 s h0),Lib.replaceK,filter_no h0]
  ·have hi:=Ob.index_some 47 a r ha
   rw [Lib.count_hit (by simp) hi,Nat.add_comm,Lib.replaceK_hit _ _ _ _ _ hi]
   have hd:(a ++ 47 :: r).drop (a.length + ([47]:List UInt8).length)=r:=by
    rw [List.drop_append]
    simp
   have ht:(a ++ 47 :: r).take a.length=a:=by simp
   rw [hd,ht,ih r (by simp at h;omega),List.filter_append,filter_no ha,List.filter_cons]
   simp
theorem replaceAll_rm (s:List UInt8):Lib.replaceAll s [47] []=s.filter (fun x=>decide (x≠47)):=by
 have h:(([47]:List UInt8) == [])=false:=rfl
 rw [Lib.replaceAll,Lib.replace,h]
 simp only [Bool.false_eq_true,if_false]
 rw [show Lib.replaceNum s [47] (-1)=Lib.count s [47] by rw [Lib.replaceNum,if_pos (.inl (by decide))]]
 exact replace_rm _ s (Nat.le_refl _)
theorem digits_of (id:List UInt8):Lib.replaceAll (47 :: Cb.Cd.hexL (id.take 1) ++ 47 :: Cb.Cd.hexL (id.drop 1)) [47] []=Cb.Cd.hexL id:=by
 rw [replaceAll_rm,List.filter_append,List.filter_cons,List.filter_cons,filter_no (hex_all _).2.1,filter_no (hex_all _).2.1]
 simp only [ne_eq,not_true_eq_false,decide_false,Bool.false_eq_true,if_false]
 rw [← Cb.Cd.hexL_append,List.take_append_drop]
set_option maxHeartbeats 800000 in
set_option maxRecDepth 100000 in
theorem said_any (id:List UInt8) (hl:id.length=32) (w:World) (hm:Ob.MaxAt w) :
  Calls Tryz.prog 54 #[.string (fileP id)] w fun e w'=>e=.returned (.tuple #[.string (Vc.bs id),.bool true])∧Below w.heap.size w w':=by
 obtain ⟨m,hm⟩:=hm
 have h2:(Cb.Cd.hexL (id.take 1)).length=2:=by rw [Cb.Cd.hexL_len];simp;omega
 have h62:(Cb.Cd.hexL (id.drop 1)).length=62:=by rw [Cb.Cd.hexL_len];simp;omega
 have eF:fileP id=Vc.bs (objL ++ (47 :: Cb.Cd.hexL (id.take 1) ++ 47 :: Cb.Cd.hexL (id.drop 1))):=by
  unfold fileP fileL dirL
  simp
 obtain ⟨r,hr⟩:∃ r,47 :: Cb.Cd.hexL (id.take 1) ++ 47 :: Cb.Cd.hexL (id.drop 1)=r:=⟨_,rfl⟩
 have hrl:r.length=66:=by rw [← hr,List.length_append,List.length_cons,List.length_cons,h2,h62]
 have hol:objL.length=7:=rfl
 have HT:=hideIt (trim_any (fileP id) ⟨#[111,98,106,101,99,116,115]⟩ (Vc.bs r) 7 73 (fileP_size hl) rfl (by decide) (by rw [eF,hr,ext_bs];show _=Vc.bs objL;congr 1) (by rw [eF,hr,ext_bs];congr 1;rw [List.extract_eq_take_drop,List.drop_left' hol];exact List.take_of_length_le (by omega)) w)
 have HR:Hid (Calls Tryz.prog 105 #[.string (Vc.bs r),.string ⟨#[47]⟩,.string ⟨#[]⟩] w fun e w'=>e=.returned (.string (Vc.bs (Cb.Cd.hexL id)))∧Below w.heap.size w w'):=hideIt (by
  have:=Tryz.strings_ReplaceAll (Vc.bs r) ⟨#[47]⟩ ⟨#[]⟩ m w (by rw [Vc.bs_size,hrl];decide) hm (by decide) (by rw [Vc.bs_size,hrl];show 66 + _ * 0≤_;omega)
  rw [Vc.bs_list,show (⟨#[47]⟩:ByteArray).data.toList=[47] from rfl,show (⟨#[]⟩:ByteArray).data.toList=[] from rfl,← hr,digits_of id] at this
  rw [← hr]
  exact this)
 have HU:Hid (∀ X,Calls Tryz.prog 107 #[.string (Vc.bs (Cb.Cd.hexL id))] X fun e w'=>e=.returned (.tuple #[.string (Vc.bs id),.int .i64 0])∧Below X.heap.size X w'):=hideIt (fun X=>by
  have:=Cb.unhex_any (Vc.bs (Cb.Cd.hexL id)) X (by rw [Vc.bs_size,Cb.Cd.hexL_len];omega)
  rw [Vc.bs_list,Cb.Cd.unhex_hex] at this
  exact this)
 have HPA:=hideIt (fun X=>path_any id hl X)
 clear hm hr hrl eF hol h2 h62 hl
 generalize fileP id=P at HT HPA ⊢
 generalize Vc.bs (Cb.Cd.hexL id)=D at HR HU
 generalize Vc.bs r=R at HT HR
 generalize Vc.bs id=I at HU HPA ⊢
 have q:(P.toList == P.toList)=true:=by simp
 go_enter Tryz.func54,Tryz.ntmps54
 go_wp2_with (first | (go_at_call 106;refine HT.out.mono ?_;rintro e wx ⟨rfl,hwx⟩;obtain rfl:=hwx.symm) | (go_at_call 105;refine HR.out.mono ?_;rintro e w1 ⟨rfl,hb1⟩) | (go_at_call 107;refine (HU.out _).mono ?_;rintro e w2 ⟨rfl,hb2⟩) | (go_at_call 24;refine (HPA.out _).mono ?_;rintro e w3 ⟨rfl,hb3⟩))
 go_ret2
 exact ⟨rfl,Ob.below2 (Ob.below2 hb1 hb2) hb3⟩
end Go.Proofs.YtogjlepdejonpaaGreatDoor.Lo
namespace Go.Proofs.YtogjlepdejonpaaGreatDoor.Lo
open Vc Go.RowKit Go.Shelf Go.Maps Go.Sort
section
variable {n0:Nat} {A:Nat→Prop} {b:Nat} {w w':World} {fb:Nat} {S:Fs} {K:List (List UInt8)} {ss:List (List UInt8)}
theorem obj_no_nil:dirOf objP≠objP:=by rw [dir_obj];intro e;have:=congrArg ByteArray.size e;rw [objP_size] at this;cases this
structure Kl (n:Nm) (K:List (List UInt8)):Prop where
 len:∀ id ∈ K,id.length=32
 nd:K.Nodup
 obj:n objP=some Option.none
 inc:n incP≠some Option.none
 dir:∀ id ∈ K,n (dirP id)=some Option.none
 dirs:∀ id:List UInt8,id.length=32→n (dirP id)=Option.none∨n (dirP id)=some Option.none
 file:∀ id ∈ K,∃ x,n (fileP id)=some (some x)
 only:∀ q,n q≠Option.none→q=objP∨q=incP∨(∃ id:List UInt8,id.length=32∧q=dirP id)∨∃ id ∈ K,q=fileP id
theorem Kp.names (h:Kp S K):Kl S.now K:=⟨h.len,h.nd,h.obj,by rw [h.inc];simp,h.dir,fun id hl=>(h.dirs id hl).1,fun id hi=>by
 obtain ⟨x,_,_,h2,_⟩:=h.file id hi
 exact ⟨x,h2⟩,fun q hq=>by
 rcases h.only q hq with e | e | e
 ·exact .inl e
 ·exact .inr (.inr (.inl e))
 ·exact .inr (.inr (.inr e))⟩
theorem Kl.folders {n:Nm} (h:Kl n K) (hN:NamesIn n objP ss):∀ s ∈ ss,s=incL∨∃ id:List UInt8,id.length=32∧s=dirL id∧n (dirP id)=some Option.none:=fun s hs=>by
 obtain ⟨h1,h2⟩:=(hN.1 s).1 hs
 have h3:n (Vc.bs s)≠Option.none:=fun e=>by rw [e] at h1;cases h1
 rcases h.only _ h3 with e | e | ⟨id,hl,e⟩ | ⟨id,hi,e⟩
 ·rw [e] at h2;exact absurd h2 obj_no_nil
 ·exact .inl (bsL_inj e)
 ·refine .inr ⟨id,hl,bsL_inj e,?_⟩
  rw [e] at h3
  exact (h.dirs id hl).resolve_left h3
 ·rw [e,dir_file] at h2
  exact absurd h2.symm (obj_ne_dir (h.len id hi))
def Fold (n:Nm) (fs:List (List UInt8)):Prop:=fs.Nodup∧(∀ s ∈ fs,∃ id:List UInt8,id.length=32∧s=dirL id∧n (dirP id)=some Option.none)∧(∀ id:List UInt8,id.length=32→n (dirP id)=some Option.none→dirL id ∈ fs)∧fs.Pairwise fun x y=>x < y
theorem up_of {ss:List (List UInt8)} (h:ss.Nodup) (h2:ss.Pairwise fun x y=>x≤y):ss.Pairwise fun x y=>x < y:=by
 refine (h.and h2).imp fun {x y} ⟨q1,q2⟩=>?_
 by_cases e:x < y
 ·exact e
 ·exact absurd (List.le_antisymm q2 (List.not_lt.1 e)) q1
def notInc (s:List UInt8):Bool:=decide (s≠incL)
theorem inc_not_dir {id:List UInt8} (hl:id.length=32):dirL id≠incL:=fun e=>inc_ne_dir hl (by unfold dirP incP;rw [e])
theorem Kl.fold {n:Nm} (h:Kl n K) (hN:NamesIn n objP ss):Fold n (ss.filter notInc):=by
 refine ⟨hN.2.1.filter _,fun s hs=>?_,fun id hl hd=>List.mem_filter.2 ⟨?_,decide_eq_true (inc_not_dir hl)⟩,(up_of hN.2.1 hN.2.2).filter _⟩
 ·obtain ⟨h1,h2⟩:=List.mem_filter.1 hs
  exact (h.folders hN s h1).resolve_left (of_decide_eq_true h2)
 ·have e:Vc.bs (dirL id)=dirP id:=rfl
  rw [hN.1,e,dir_dir,hd]
  exact ⟨rfl,rfl⟩
theorem name_inc:nameB false incP=Vc.bs [105,110,99,111,109,105,110,103]:=by
 unfold nameB
 rw [if_neg (by decide),incP,incL,tail_of _ _ (by decide)]
theorem slsuf_inc (w:World):Calls Tryz.prog 186 #[.string ⟨#[105,110,99,111,109,105,110,103]⟩,.string ⟨#[47]⟩] w fun e w'=>e=.returned (.bool false)∧w'=w:=by
 have q:(((⟨#[105,110,99,111,109,105,110,103]⟩:ByteArray).extract 7 8).toList == [47])=false:=by decide +kernel
 go_enter Tryz.func186,Tryz.ntmps186
 go_wp2
 go_ret
 exact ⟨rfl,rfl⟩
theorem cut_inc (w:World):Calls Tryz.prog 102 #[.string (nameB false incP),.string ⟨#[47]⟩] w fun e w'=>e=.returned (.tuple #[.string (nameB false incP),.bool false])∧w'=w:=by
 rw [name_inc]
 have H1:=hideIt (slsuf_inc w)
 have H2:Hid (Calls Tryz.prog 148 #[.string (Vc.bs [105,110,99,111,109,105,110,103]),.string ⟨#[47]⟩] w fun e w'=>e=.returned (.tuple #[.string (Vc.bs [105,110,99,111,109,105,110,103]),.bool false])∧w'=w):=hideIt (by
  show Calls _ _ #[.string ⟨#[105,110,99,111,109,105,110,103]⟩,.string ⟨#[47]⟩] _ fun e w'=>e=.returned (.tuple #[.string ⟨#[105,110,99,111,109,105,110,103]⟩,.bool false])∧w'=w
  go_enter Tryz.func148,Tryz.ntmps148
  go_wp2_with (first | (go_at_call 186;refine H1.out.mono ?_;rintro e wx ⟨rfl,hwx⟩;obtain rfl:=hwx.symm))
  go_ret2
  exact ⟨rfl,rfl⟩)
 generalize Vc.bs [105,110,99,111,109,105,110,103]=N at H2 ⊢
 go_enter Tryz.func102,Tryz.ntmps102
 go_wp2_with (first | (go_at_call 148;refine H2.out.mono ?_;rintro e wx ⟨rfl,hwx⟩;obtain rfl:=hwx.symm))
 go_ret2
 exact ⟨rfl,rfl⟩
def nm1 (s:List UInt8):ByteArray:=nameB (notInc s) (Vc.bs s)
set_option maxHeartbeats 1600000 in
set_option maxRecDepth 100000 in
theorem folders_any (h:St P0 n0 A b w fb S) (hK:Kl S.now K) (hb:b < 900) :
  Calls Tryz.prog 52 #[.pointer (some ⟨fb,0,none⟩)] w fun e w'=>Kept [] w w'∧∃ (v:Value) (fs:List (List UInt8)),Fold S.now fs∧fs.length≤900000∧e=.returned (.tuple #[v,.int .i64 0])∧w'.ownsRow w.heap.size 9 1 v fs.length (fs.map encStr):=by
 have e0:S.nfE objP=0:=nf_of objP_path hK.obj
 have HLI:Hid (Calls Tryz.prog 53 #[.pointer (some ⟨fb,0,none⟩),.string ⟨#[111,98,106,101,99,116,115]⟩] w fun e w'=>Kept [] w w'∧∃ (a:Option Addr) (c:Nat) (ss:List (List UInt8)),NamesIn S.now objP ss∧ss.length≤900000∧e=.returned (.tuple #[.slice a ss.length c,.int .i64 0])∧StrRow w.heap.size w' a (ss.map nm1)):=hideIt ((list_rep h.rep hb (calm_nil _ _) objP (by rw [objP_size];decide)).mono fun e w' ⟨hk,hr⟩=>by
  rcases hr with ⟨h0,_⟩ | ⟨_,a,c,ss,h1,h2,_,h3,h4⟩
  ·exact absurd e0 h0
  ·refine ⟨hk,a,c,ss,h1,h2,h3,?_⟩
   have:ss.map nm1=ss.map fun s=>nameB (isDir S.now (Vc.bs s)) (Vc.bs s):=List.map_congr_left fun s hs=>by
    unfold nm1
    rcases hK.folders h1 s hs with rfl | ⟨id,hl,rfl,hd⟩
    ·rw [show Vc.bs incL=incP from rfl,isDir_not (by decide) hK.inc]
     rfl
    ·rw [show Vc.bs (dirL id)=dirP id from rfl,isDir_of hd,notInc,decide_eq_true (inc_not_dir hl)]
   rw [this]
   exact h4)
 have HKF:=hideIt (fun ss (hN:NamesIn S.now objP ss)=>hK.folders hN)
 have HFD:=hideIt (fun ss (hN:NamesIn S.now objP ss)=>hK.fold hN)
 obtain ⟨i0,hi0,hz0,hz1,hz2⟩:=info_parts infoStr
 clear h hK e0
 go_enter Tryz.func52,Tryz.ntmps52
 go_wp2_with (first | (go_at_call 53;refine HLI.out.mono ?_;rintro e w1 ⟨hk1,a,c,ss,hN,hsl,rfl,hrow⟩))
 obtain ⟨m,hm⟩:∃ m,ss.length=m:=⟨_,rfl⟩
 have HN:=hideIt (HFD.out ss hN)
 have HKS:=hideIt (HKF.out ss hN)
 have HROW:=hideIt hrow
 have HK1:=hideIt hk1
 have HSZ:Hid (w.heap.size≤w1.heap.size):=hideIt hk1.size
 rw [hm] at hsl ⊢
 have HM:=hideIt hm
 have mI:(m:Int)≤900000:=by omega
 clear HKF HFD HLI hN hrow hk1 hm
 go_loopw [6,21] (fun v t wr=>∃ i:Nat,i≤m∧t=.int .i64 i∧wr.ownsRow w1.heap.size 9 1 v ((ss.take i).filter notInc).length (((ss.take i).filter notInc).map encStr)∧Kept [] w1 wr) (fun _ t _=>m - (intOf t).toNat)
 case atStart=>exact ⟨0,by omega,rfl,⟨rfl,.inl ⟨rfl,rfl⟩⟩,Kept.refl _ _⟩
 case round =>
  obtain ⟨i,hi,rfl,hown,hkr⟩:=hrel
  by_cases hlm:i < m
  ·have hie:decide ((i:Int) < (m:Int))=true:=decide_eq_true (by omega)
   have i1:(i:Int) < (m:Int):=by omega
   have hil:i < ss.length:=by rw [HM.out];exact hlm
   obtain ⟨z,hz⟩:∃ z,ss[i]? = some z:=⟨_,List.getElem?_eq_getElem hil⟩
   have HKR:=hideIt hkr
   have HO:=hideIt hown
   have hlen:((ss.take i).filter notInc).length≤900000:=by
    have h1:=List.length_filter_le notInc (ss.take i)
    have h2:=List.length_take_le i ss
    omega
   have hB:w1.heap.size≤wr.heap.size:=hkr.size
   obtain ⟨g,cur,rfl,hBg,hg,hcm,hcell⟩:=HROW.out (by rw [List.length_map];omega)
   have hsi:=hcell i (nm1 z) (by rw [List.getElem?_map,hz];rfl)
   have hg2:=hkr.fs hg (by simp)
   have x0:=cell_in hg2 hsi
   have x0f:=thawAt hg2 i
   have HT:Hid ((ss.take (i + 1)).filter notInc=(ss.take i).filter notInc ++ [z].filter notInc):=hideIt (by rw [List.take_add_one,hz,List.filter_append];rfl)
   clear hsi hcell hg hg2 hown hkr hil
   rcases HKS.out z (List.mem_of_getElem? hz) with rfl | ⟨id,hid,rfl,_⟩
   ·have HCU:=hideIt (fun X=>cut_inc X)
    have e1:nm1 incL=nameB false incP:=rfl
    have e2:[incL].filter notInc=[]:=rfl
    rw [e1] at x0
    rw [e2,List.append_nil] at HT
    generalize nameB false incP=N at HCU x0
    clear hz e1 e2
    go_wp2_with (first | (go_at_call 102;refine (HCU.out _).mono ?_;rintro e wx ⟨rfl,hwx⟩;obtain rfl:=hwx.symm))
    go_roundw
    case rel=>exact ⟨i + 1,by omega,by go_num,by rw [HT.out];exact HO.out,HKR.out⟩
    case measure=>simp [intOf];omega
   ·have HCU:=hideIt (fun X=>cut_dir id hid X)
    have e0:notInc (dirL id)=true:=decide_eq_true (inc_not_dir hid)
    have e1:nm1 (dirL id)=nameB true (dirP id):=by unfold nm1;rw [e0];rfl
    have e2:[dirL id].filter notInc=[dirL id]:=by rw [List.filter_cons,e0];rfl
    rw [e1] at x0
    rw [e2] at HT
    have HEN:Hid (encStr (dirL id)=.string (dirP id)):=hideIt rfl
    have HD:Hid (⟨#[111,98,106,101,99,116,115,47]⟩ ++ Vc.bs (Cb.Cd.hexL (id.take 1))=dirP id):=hideIt (by
     show Vc.bs [111,98,106,101,99,116,115,47] ++ _=Vc.bs _
     rw [cat_bs]
     rfl)
    have hd2:(Vc.bs (Cb.Cd.hexL (id.take 1))).size=2:=by rw [Vc.bs_size,Cb.Cd.hexL_len];simp;omega
    generalize nameB true (dirP id)=N at HCU x0
    generalize dirP id=D at HEN HD
    generalize Vc.bs (Cb.Cd.hexL (id.take 1))=R at HCU HD hd2
    obtain rfl:=HD.out
    clear hz hid HD e0 e1 e2
    go_wp2_with (first | (go_at_call 102;refine (HCU.out _).mono ?_;rintro e wx ⟨rfl,hwx⟩;obtain rfl:=hwx.symm) | (at_builtin;refine wpList_append_own _ rfl _ _ 22 rfl w1.heap.size 9 i0 (.string ⟨#[]⟩) 1 16 Tryz.underlying22 hi0 hz0 hz1 hz2 rfl (by decide) _ _ _ rfl (HO.out.alloc _) ⟨wr.heap.size,0,none⟩ 1 1 [.string _] rfl rfl (cell_one_new _ _ _) (fun x hx=>by simp at hx;subst hx;rfl) (by unfold maxLen;omega) (by omega) (by simp;omega) ?_;intro v3 w3 hown3 hg3 hnil3))
    go_roundw
    case rel =>
     refine ⟨i + 1,by omega,by go_num,?_,?_⟩
     ·rw [HT.out,List.length_append,List.map_append,List.map_cons,List.map_nil,HEN.out]
      exact hown3
     ·refine ((HKR.out.trans (Kept.alloc _ _)).trans (Kept.of_grown hg3)).fresh (fun a ha=>?_)
      simp at ha
      have:=Vc.row_ge HO.out a ha
      exact .inr (by omega)
    case measure=>simp [intOf];omega
  ·have hie:decide ((i:Int) < (m:Int))=false:=decide_eq_false (by omega)
   obtain rfl:i=m:=by omega
   have HO:=hideIt hown
   have HKR:=hideIt hkr
   clear hown hkr
   go_wp2
   go_ret2
   refine ⟨(HK1.out.trans HKR.out).sub (by simp),_,_,HN.out,by have:=List.length_filter_le notInc ss;have:=HM.out;omega,rfl,?_⟩
   have e1:ss.take i=ss:=List.take_of_length_le (by rw [HM.out];exact Nat.le_refl _)
   have ho:=HO.out
   rw [e1] at ho
   refine ⟨ho.1,?_⟩
   rcases ho.2 with h1 | ⟨g,cap,cur,h1,h2,h3⟩
   ·exact .inl h1
   ·exact .inr ⟨g,cap,cur,h1,by have:=HSZ.out;omega,h3⟩
end
end Go.Proofs.YtogjlepdejonpaaGreatDoor.Lo
namespace Go.Proofs.YtogjlepdejonpaaGreatDoor.Lo
open Vc Go.RowKit Go.Shelf Go.Maps Go.Sort
theorem dig_lt:∀ a,a < 16→∀ b,b < 16→a < b→Cb.Cd.dig a < Cb.Cd.dig b:=by decide
theorem u8_lt (a b:UInt8):a < b↔a.toNat < b.toNat:=UInt8.lt_iff_toNat_lt
theorem hex_cons (c:UInt8) (t:List UInt8):Cb.Cd.hexL (c :: t)=Cb.Cd.dig (c.toNat / 16) :: Cb.Cd.dig (c.toNat % 16) :: Cb.Cd.hexL t:=rfl
theorem hex_mono:∀ a b:List UInt8,a.length=b.length→a < b→Cb.Cd.hexL a < Cb.Cd.hexL b
 | [],[],_,h=>absurd h (by decide)
 | x :: s,y :: t,hl,h=>by
  rw [hex_cons,hex_cons]
  rcases List.cons_lt_cons_iff.1 h with h1 | ⟨rfl,h1⟩
  ·rw [u8_lt] at h1
   have hx:x.toNat < 256:=x.toNat_lt
   have hy:y.toNat < 256:=y.toNat_lt
   by_cases e:x.toNat / 16=y.toNat / 16
   ·rw [e]
    exact List.cons_lt_cons_iff.2 (.inr ⟨rfl,List.cons_lt_cons_iff.2 (.inl (dig_lt _ (by omega) _ (by omega) (by omega)))⟩)
   ·exact List.cons_lt_cons_iff.2 (.inl (dig_lt _ (by omega) _ (by omega) (by omega)))
  ·exact List.cons_lt_cons_iff.2 (.inr ⟨rfl,List.cons_lt_cons_iff.2 (.inr ⟨rfl,hex_mono s t (by simpa using hl) h1⟩)⟩)
theorem lt_app:∀ (p a b:List UInt8),a < b→p ++ a < p ++ b
 | [],_,_,h=>h
 | _ :: p,a,b,h=>List.cons_lt_cons_iff.2 (.inr ⟨rfl,lt_app p a b h⟩)
theorem app_lt:∀ (p q a b:List UInt8),p.length=q.length→p < q→p ++ a < q ++ b
 | [],[],_,_,_,h=>absurd h (by decide)
 | x :: p,y :: q,a,b,hl,h=>by
  rcases List.cons_lt_cons_iff.1 h with h1 | ⟨rfl,h1⟩
  ·exact List.cons_lt_cons_iff.2 (.inl h1)
  ·exact List.cons_lt_cons_iff.2 (.inr ⟨rfl,app_lt p q a b (by simpa using hl) h1⟩)
theorem lt_total (a b:List UInt8) (h1:¬ a < b) (h2:a≠b):b < a:=by
 by_cases h:b < a
 ·exact h
 ·exact absurd (List.le_antisymm (List.not_lt.1 h) (List.not_lt.1 h1)) h2
theorem lt_irr (a:List UInt8):¬ a < a:=List.lt_irrefl a
theorem file_mono {a b:List UInt8} (ha:a.length=32) (hb:b.length=32) (h:a < b):fileL a < fileL b:=by
 have e:∀ l:List UInt8,fileL l=(objL ++ [47]) ++ (Cb.Cd.hexL (l.take 1) ++ 47 :: Cb.Cd.hexL (l.drop 1)):=fun l=>by unfold fileL dirL;simp
 rw [e,e]
 refine lt_app _ _ _ ?_
 match a,b,ha,hb,h with
 | x :: s,y :: t,ha,hb,h =>
  simp only [List.take_succ_cons,List.take_zero,List.drop_succ_cons,List.drop_zero]
  rcases List.cons_lt_cons_iff.1 h with h1 | ⟨rfl,h1⟩
  ·refine app_lt _ _ _ _ (by rw [Cb.Cd.hexL_len,Cb.Cd.hexL_len];rfl) (hex_mono [x] [y] rfl (List.cons_lt_cons_iff.2 (.inl h1)))
  ·refine lt_app _ _ _ (List.cons_lt_cons_iff.2 (.inr ⟨rfl,hex_mono s t ?_ h1⟩))
   simp at ha hb
   omega
theorem file_lt_iff {a b:List UInt8} (ha:a.length=32) (hb:b.length=32):fileL a < fileL b↔a < b:=by
 refine ⟨fun h=>?_,file_mono ha hb⟩
 by_cases h1:a < b
 ·exact h1
 ·by_cases h2:a=b
  ·rw [h2] at h;exact absurd h (lt_irr _)
  ·exact absurd (List.lt_trans h (file_mono hb ha (lt_total a b h1 h2))) (lt_irr _)
end Go.Proofs.YtogjlepdejonpaaGreatDoor.Lo
namespace Go.Proofs.YtogjlepdejonpaaGreatDoor.Lo
open Vc Go.RowKit Go.Shelf Go.Maps Go.Sort
def Got (K:List (List UInt8)) (P:List UInt8→Prop) (L:List (List UInt8)):Prop:=L.Nodup∧(∀ id,id ∈ L↔id ∈ K∧P id)∧L.Pairwise fun x y=>fileL x < fileL y
theorem take_lt {α:Type} {R:α→α→Prop} {l:List α} (h:l.Pairwise R) {i:Nat} {z x:α} (hz:l[i]? = some z) (hx:x ∈ l.take i):R x z:=by
 rw [← List.take_append_drop i l] at h
 exact (List.pairwise_append.1 h).2.2 x hx z (List.mem_of_getElem? (i:=0) (by rw [List.getElem?_drop];simpa using hz))
theorem not_take {α:Type} {l:List α} (h:l.Nodup) {i:Nat} {z:α} (hz:l[i]? = some z):z ∉ l.take i:=fun hm=>by
 obtain ⟨k,hk⟩:=List.mem_iff_getElem?.1 hm
 rw [List.getElem?_take] at hk
 split at hk
 ·have hlt:k < l.length:=(List.getElem?_eq_some_iff.1 hk).1
  have:=(List.getElem?_inj hlt h).1 (hk.trans hz.symm)
  omega
 ·cases hk
theorem mem_take_one {α:Type} {l:List α} {i:Nat} {z:α} (hz:l[i]? = some z) (x:α):x ∈ l.take (i + 1)↔x ∈ l.take i∨x=z:=by
 rw [List.take_add_one,hz,List.mem_append]
 simp
theorem dirL_iff (a b:List UInt8):dirP a=dirP b↔dirL a=dirL b:=⟨fun h=>bsL_inj h,fun h=>by unfold dirP;rw [h]⟩
section
variable {n:Nm} {K ss ts:List (List UInt8)} {id0:List UInt8}
theorem Kl.files (h:Kl n K) (hl0:id0.length=32) (hN:NamesIn n (dirP id0) ts):∀ t ∈ ts,∃ id ∈ K,t=fileL id∧dirP id=dirP id0∧isDir n (fileP id)=false:=fun t ht=>by
 obtain ⟨h1,h2⟩:=(hN.1 t).1 ht
 have h3:n (Vc.bs t)≠Option.none:=fun e=>by rw [e] at h1;cases h1
 rcases h.only _ h3 with e | e | ⟨id,hl,e⟩ | ⟨id,hi,e⟩
 ·rw [e,dir_obj] at h2
  have:=congrArg ByteArray.size h2
  rw [dirP_size hl0] at this
  cases this
 ·rw [e,dir_inc] at h2
  exact absurd h2 (obj_ne_dir hl0)
 ·rw [e,dir_dir] at h2
  exact absurd h2 (obj_ne_dir hl0)
 ·rw [e,dir_file] at h2
  refine ⟨id,hi,bsL_inj e,h2,?_⟩
  obtain ⟨x,h4⟩:=h.file id hi
  exact isDir_not (ne_nil_of (by rw [file_len (h.len id hi)];decide)) (by rw [h4];simp)
theorem Kl.in_file (h:Kl n K) (hN:NamesIn n (dirP id0) ts) {id:List UInt8} (hi:id ∈ K):fileL id ∈ ts↔dirL id=dirL id0:=by
 obtain ⟨x,h4⟩:=h.file id hi
 have e:Vc.bs (fileL id)=fileP id:=rfl
 rw [hN.1,e,dir_file,h4,dirL_iff]
 simp
theorem Kl.in_dir (h:Kl n K) (hN:Fold n ss) {id:List UInt8} (hi:id ∈ K):dirL id ∈ ss:=hN.2.2.1 id (h.len id hi) (h.dir id hi)
theorem got_len {P:List UInt8→Prop} {L:List (List UInt8)} (h:Got K P L):L.length≤K.length:=h.1.length_le_of_subset fun id hi=>((h.2.1 id).1 hi).1
theorem got_nil (K:List (List UInt8)) (ss:List (List UInt8)):Got K (fun id=>dirL id ∈ ss.take 0) []:=⟨List.nodup_nil,fun id=>by simp,List.Pairwise.nil⟩
theorem got_in {P:List UInt8→Prop} {L:List (List UInt8)} (h:Got K P L) (ts:List (List UInt8)):Got K (fun id=>P id∨fileL id ∈ ts.take 0) L:=⟨h.1,fun id=>by rw [h.2.1];simp,h.2.2⟩
theorem got_one {L:List (List UInt8)} {i j:Nat} {jd:List UInt8} (hS:ss.Pairwise fun x y=>x < y) (hT:ts.Nodup) (hT2:ts.Pairwise fun x y=>x < y) (h:Got K (fun id=>dirL id ∈ ss.take i∨fileL id ∈ ts.take j) L) (hlen:∀ id ∈ K,id.length=32) (hi:ss[i]? = some (dirL jd)) (hj:ts[j]? = some (fileL jd)) (hk:jd ∈ K):Got K (fun id=>dirL id ∈ ss.take i∨fileL id ∈ ts.take (j + 1)) (L ++ [jd]):=by
 have hS1:ss.Nodup:=hS.imp fun {x y} q=>by
  intro e
  rw [e] at q
  exact lt_irr y q
 refine ⟨List.nodup_append.2 ⟨h.1,by simp,fun a ha c hc=>?_⟩,fun id=>?_,List.pairwise_append.2 ⟨h.2.2,by simp,fun a ha c hc=>?_⟩⟩
 ·simp at hc
  subst hc
  intro e
  subst e
  rcases ((h.2.1 a).1 ha).2 with q | q
  ·exact not_take hS1 hi q
  ·exact not_take hT hj q
 ·rw [List.mem_append,h.2.1,List.mem_singleton]
  show (id ∈ K∧(dirL id ∈ ss.take i∨fileL id ∈ ts.take j))∨id=jd↔id ∈ K∧(dirL id ∈ ss.take i∨fileL id ∈ ts.take (j + 1))
  rw [mem_take_one hj]
  constructor
  ·rintro (⟨q1,q2⟩ | rfl)
   ·exact ⟨q1,q2.elim .inl (fun q=>.inr (.inl q))⟩
   ·exact ⟨hk,.inr (.inr rfl)⟩
  ·rintro ⟨q1,q2 | q2 | q2⟩
   ·exact .inl ⟨q1,.inl q2⟩
   ·exact .inl ⟨q1,.inr q2⟩
   ·exact .inr (file_inj (hlen id q1) (hlen jd hk) (by unfold fileP;rw [q2]))
 ·simp at hc
  subst hc
  obtain ⟨q1,q2⟩:=(h.2.1 a).1 ha
  rcases q2 with q | q
  ·have h1:=take_lt hS hi q
   exact app_lt _ _ _ _ (by rw [dir_len (hlen a q1),dir_len (hlen c hk)]) h1
  ·exact take_lt hT2 hj q
theorem got_all {L:List (List UInt8)} {i j:Nat} (h:Kl n K) (hN:NamesIn n (dirP id0) ts) (hG:Got K (fun id=>dirL id ∈ ss.take i∨fileL id ∈ ts.take j) L) (hi:ss[i]? = some (dirL id0)) (hj:ts.length≤j):Got K (fun id=>dirL id ∈ ss.take (i + 1)) L:=by
 refine ⟨hG.1,fun id=>?_,hG.2.2⟩
 rw [hG.2.1,List.take_of_length_le hj]
 show id ∈ K∧(dirL id ∈ ss.take i∨fileL id ∈ ts)↔id ∈ K∧dirL id ∈ ss.take (i + 1)
 rw [mem_take_one hi]
 exact and_congr_right fun hk=>or_congr_right (h.in_file hN hk)
theorem got_end {L:List (List UInt8)} {i:Nat} (h:Kl n K) (hN:Fold n ss) (hG:Got K (fun id=>dirL id ∈ ss.take i) L) (hi:ss.length≤i):L.Perm K∧L.Pairwise fun x y=>x < y:=by
 refine ⟨(List.perm_ext_iff_of_nodup hG.1 h.nd).2 fun id=>?_,hG.2.2.imp_of_mem fun {x y} hx hy q=>(file_lt_iff (h.len x ((hG.2.1 x).1 hx).1) (h.len y ((hG.2.1 y).1 hy).1)).1 q⟩
 rw [hG.2.1,List.take_of_length_le hi]
 exact ⟨fun q=>q.1,fun q=>⟨q,h.in_dir hN q⟩⟩
end
end Go.Proofs.YtogjlepdejonpaaGreatDoor.Lo
namespace Go.Proofs.YtogjlepdejonpaaGreatDoor.Lo
open Vc Go.RowKit Go.Shelf Go.Maps Go.Sort
section
variable {n0:Nat} {A:Nat→Prop} {b:Nat} {w w':World} {fb:Nat} {S:Fs} {K:List (List UInt8)}
set_option maxHeartbeats 3200000 in
set_option maxRecDepth 100000 in
theorem list_any (h:St P0 n0 A b w fb S) (hK:Kl S.now K) (hb:b < 900) (hKl:K.length≤1000) :
  Calls Tryz.prog 22 #[.pointer (some ⟨fb,0,none⟩)] w fun e w'=>Kept [] w w'∧∃ (v:Value) (L:List (List UInt8)),L.Perm K∧(L.Pairwise fun x y=>x < y)∧e=.returned v∧w'.ownsRow w.heap.size 9 1 v L.length (L.map encStr):=by
 have HFO:=hideIt (folders_any h hK hb)
 have HLI:Hid (∀ X id,Kept [] w X→id.length=32→S.now (dirP id)=some none→Calls Tryz.prog 53 #[.pointer (some ⟨fb,0,none⟩),.string (dirP id)] X fun e w'=>Kept [] X w'∧∃ (a:Option Addr) (c:Nat) (ts:List (List UInt8)),NamesIn S.now (dirP id) ts∧ts.length≤900000∧e=.returned (.tuple #[.slice a ts.length c,.int .i64 0])∧StrRow X.heap.size w' a (ts.map fun t=>nameB false (Vc.bs t))):=hideIt (fun X id hX hl hd=>(list_rep (h.kept hX).rep hb (calm_nil _ _) (dirP id) (by rw [dirP_size hl];decide)).mono fun e w' ⟨hk,hr⟩=>by
  have e0:S.nfE (dirP id)=0:=nf_of (dirP_path hl) hd
  rcases hr with ⟨h0,_⟩ | ⟨_,a,c,ts,h1,h2,_,h3,h4⟩
  ·exact absurd e0 h0
  ·refine ⟨hk,a,c,ts,h1,h2,h3,?_⟩
   have:(ts.map fun t=>nameB false (Vc.bs t))=ts.map fun t=>nameB (isDir S.now (Vc.bs t)) (Vc.bs t):=List.map_congr_left fun t ht=>by
    obtain ⟨jd,_,rfl,_,hf⟩:=hK.files hl h1 t ht
    rw [show Vc.bs (fileL jd)=fileP jd from rfl,hf]
   rw [this]
   exact h4)
 have HSD:Hid (∀ X id,Kept [] w X→id.length=32→Calls Tryz.prog 54 #[.string (fileP id)] X fun e w'=>e=.returned (.tuple #[.string (Vc.bs id),.bool true])∧Below X.heap.size X w'):=hideIt (fun X id hX hl=>said_any id hl X (h.kept hX).ok.ok.max)
 have HK:=hideIt hK
 obtain ⟨i0,hi0,hz0,hz1,hz2⟩:=info_parts infoStr
 clear h hK
 go_enter Tryz.func22,Tryz.ntmps22
 go_wp2_with (first | (go_at_call 52;refine HFO.out.mono ?_;rintro e w1 ⟨hk1,v,ss,hN,hsl,rfl,hown⟩;obtain ⟨a,c,rfl,hsr⟩:=SRow.of_row hown []))
 have HN:=hideIt hN
 have HSR:=hideIt hsr
 have HK1:=hideIt hk1
 have HSZ:Hid (w.heap.size≤w1.heap.size):=hideIt hk1.size
 obtain ⟨m,hm⟩:∃ m,ss.length=m:=⟨_,rfl⟩
 rw [hm] at hsl ⊢
 have HM:=hideIt hm
 have mI:(m:Int)≤900000:=by omega
 clear HFO hN hk1 hown hsr hm
 go_loopw [3,21] (fun v t wr=>∃ (i:Nat) (L:List (List UInt8)),i≤m∧t=.int .i64 i∧Got K (fun id=>dirL id ∈ ss.take i) L∧wr.ownsRow w1.heap.size 9 1 v L.length (L.map encStr)∧Kept [] w1 wr) (fun _ t _=>m - (intOf t).toNat)
 case atStart=>exact ⟨0,[],by omega,rfl,got_nil K ss,⟨rfl,.inl ⟨rfl,rfl⟩⟩,Kept.refl _ _⟩
 case round =>
  obtain ⟨i,L,hi,rfl,hG,hown,hkr⟩:=hrel
  by_cases hlm:i < m
  ·have hie:decide ((i:Int) < (m:Int))=true:=decide_eq_true (by omega)
   have i1:(i:Int) < (m:Int):=by omega
   have hil:i < ss.length:=by rw [HM.out];exact hlm
   obtain ⟨z,hz⟩:∃ z,ss[i]? = some z:=⟨_,List.getElem?_eq_getElem hil⟩
   obtain ⟨id,hid,rfl,hdn⟩:=HN.out.2.1 z (List.mem_of_getElem? hz)
   obtain ⟨g,cur,rfl,hBg,hg,hcm,_,hcell⟩:=HSR.out (by rw [HM.out];omega)
   have hsi:=hcell i (dirP id) (Nat.zero_le _) (by rw [List.getElem?_map,hz];rfl)
   have hg2:=hkr.fs hg (by simp)
   have x0:=cell_in hg2 hsi
   have x0f:=thawAt hg2 i
   have HGG:=hideIt hG
   have HO:=hideIt hown
   have HKR:=hideIt hkr
   have HKW:Hid (Kept [] w wr):=hideIt ((HK1.out.trans hkr).sub (by simp))
   have HL1:=hideIt (HLI.out wr id HKW.out hid hdn)
   have HZ:=hideIt hz
   have HID:=hideIt hid
   have hds:(dirP id).size=10:=dirP_size hid
   obtain ⟨D,hD⟩:∃ D,dirP id=D:=⟨_,rfl⟩
   have HD:=hideIt hD
   rw [hD] at hsi x0 HL1 hds
   clear hz hsi hcell hg hg2 hown hkr hG hil hdn hid hD
   go_wp2_with (first | (go_at_call 53;refine HL1.out.mono ?_;rintro e w2 ⟨hk2,a2,c2,ts,hN2,htl,rfl,hrow2⟩))
   have hown2:w2.ownsRow w1.heap.size 9 1 _ L.length (L.map encStr):=hk2.row HO.out (fun _ _=>by simp)
   have HK2:Hid (Kept [] w1 w2):=hideIt ((HKR.out.trans hk2).sub (by simp))
   have HB2:Hid (∀ g,Value.ownBlock _=some g→g < wr.heap.size):=hideIt (fun g hg=>(Vc.row_ge HO.out g hg).2)
   have HN2:=hideIt hN2
   have HR2:=hideIt hrow2
   have HS2:Hid (wr.heap.size≤w2.heap.size):=hideIt hk2.size
   have HA2:Hid (∀ g,0 < ts.length→a2=some ⟨g,0,none⟩→g < w2.heap.size):=hideIt (fun g h0 e=>by
    obtain ⟨g',cur',e',_,hg',_⟩:=hrow2 (by rw [List.length_map];exact h0)
    rw [e'] at e
    simp only [Option.some.injEq,Addr.mk.injEq] at e
    rw [← e.1]
    exact block_lt hg')
   obtain ⟨n1,hn1⟩:∃ n1,wr.heap.size=n1:=⟨_,rfl⟩
   rw [hn1] at HB2 HR2 HS2
   obtain ⟨q,hq⟩:∃ q,ts.length=q:=⟨_,rfl⟩
   rw [hq] at htl ⊢
   have HQ:=hideIt hq
   have qI:(q:Int)≤900000:=by omega
   have HO2:=hideIt hown2
   clear hk2 hN2 hrow2 hq HL1 HO hown2
   go_loopw [3,33] (fun v t wx=>∃ (j:Nat) (L':List (List UInt8)),j≤q∧t=.int .i64 j∧Got K (fun id=>dirL id ∈ ss.take i∨fileL id ∈ ts.take j) L'∧wx.ownsRow w1.heap.size 9 1 v L'.length (L'.map encStr)∧(∀ g,v.ownBlock=some g→g < n1∨w2.heap.size≤g)∧StrRow n1 wx a2 (ts.map fun t=>nameB false (Vc.bs t))∧w2.heap.size≤wx.heap.size∧Kept [] w1 wx) (fun _ t _=>q - (intOf t).toNat)
   case atStart=>exact ⟨0,L,by omega,rfl,got_in HGG.out ts,HO2.out,fun g hg=>.inl (HB2.out g hg),HR2.out,Nat.le_refl _,HK2.out⟩
   case round =>
    obtain ⟨j,L2,hj,rfl,hG2,hown3,hap,hrow3,hsz3,hkx⟩:=hrel
    clear HO2 HR2 HK2 HB2 HGG HKR
    by_cases hlq:j < q
    ·have hje:decide ((j:Int) < (q:Int))=true:=decide_eq_true (by omega)
     have j1:(j:Int) < (q:Int):=by omega
     have hjl:j < ts.length:=by rw [HQ.out];exact hlq
     obtain ⟨t,ht⟩:∃ t,ts[j]? = some t:=⟨_,List.getElem?_eq_getElem hjl⟩
     have hN2:=HN2.out
     rw [← HD.out] at hN2
     obtain ⟨jd,hjd,rfl,hdd,_⟩:=HK.out.files HID.out hN2 t (List.mem_of_getElem? ht)
     have hjl2:=HK.out.len jd hjd
     obtain ⟨g2,cur2,rfl,hBg2,hg2,hcm2,hcell2⟩:=hrow3 (by rw [List.length_map];omega)
     have hsi:=hcell2 j (Vc.bs (Cb.Cd.hexL (jd.drop 1))) (by rw [List.getElem?_map,ht,← name_file];rfl)
     have y0:=cell_in hg2 hsi
     have y0f:=thawAt hg2 j
     have hg2lt:=HA2.out g2 (by omega) rfl
     have HNEW:Hid (Got K (fun id=>dirL id ∈ ss.take i∨fileL id ∈ ts.take (j + 1)) (L2 ++ [jd])):=hideIt (got_one HN.out.2.2.2 HN2.out.2.1 (up_of HN2.out.2.1 HN2.out.2.2) hG2 HK.out.len (by rw [HZ.out,(dirL_iff jd id).1 hdd]) ht hjd)
     have HLN:Hid (L2.length≤1000):=hideIt (Nat.le_trans (got_len hG2) hKl)
     have HSJ:=hideIt (HSD.out wr jd ((HK1.out.trans hkx).sub (by simp)) hjl2)
     have HP:Hid (D ++ ⟨#[47]⟩ ++ Vc.bs (Cb.Cd.hexL (jd.drop 1))=fileP jd):=hideIt (by
      rw [← HD.out,← hdd]
      show Vc.bs (dirL jd) ++ Vc.bs [47] ++ _=Vc.bs _
      rw [cat_bs,cat_bs]
      simp [fileL])
     have hns:(Vc.bs (Cb.Cd.hexL (jd.drop 1))).size=62:=by rw [Vc.bs_size,Cb.Cd.hexL_len];simp;omega
     generalize Vc.bs (Cb.Cd.hexL (jd.drop 1))=N at hsi y0 HP hns
     rw [← HP.out] at HSJ
     have HOW:=hideIt hown3
     have HAP:=hideIt hap
     have HRW:=hideIt hrow3
     have HGX:=hideIt hg2
     have HKX:=hideIt hkx
     have HBW:Hid (w1.heap.size≤wr.heap.size):=hideIt hkx.size
     have HJD:Hid (encStr jd=.string (Vc.bs jd)):=hideIt rfl
     obtain ⟨J,hJ⟩:∃ J,Vc.bs jd=J:=⟨_,rfl⟩
     rw [hJ] at HSJ HJD
     have lnI:=HLN.out
     clear ht hjl2 hdd hsi hcell2 hg2 hown3 hap hrow3 hkx hG2 hjl hN2 hJ HP
     go_wp2_with (first | (go_at_call 54;refine HSJ.out.mono ?_;rintro e w3 ⟨rfl,hb3⟩;have hO3:=(Kept.of_below hb3).row HOW.out (fun _ _=>by simp);have hB3:w1.heap.size≤w3.heap.size:=Nat.le_trans HBW.out hb3.size) | (at_builtin;refine wpList_append_own_at _ rfl _ _ 22 rfl w1.heap.size 9 i0 (.string ⟨#[]⟩) 1 16 Tryz.underlying22 hi0 hz0 hz1 hz2 rfl (by decide) _ _ _ rfl (hO3.alloc _) ⟨w3.heap.size,0,none⟩ 1 1 [.string J] rfl rfl (cell_one_new _ _ _) (fun x hx=>by simp at hx;subst hx;rfl) (by unfold maxLen;omega) (by omega) (by simp;omega) ?_;intro v4 w4 hown4 hg4 hnil4 hbl4))
     go_roundw
     case rel =>
      have hk4:=((Kept.of_below hb3).trans (Kept.alloc _ _)).trans (Kept.of_grown hg4)
      refine ⟨j + 1,L2 ++ [jd],by omega,by go_num,HNEW.out,?_,fun g hg=>?_,fun h0=>?_,Nat.le_trans hsz3 hk4.size,?_⟩
      ·have h5:=hown4
       rw [← HJD.out] at h5
       simpa using h5
      ·rcases hbl4 with e | e
       ·rw [e] at hg
        exact HAP.out g hg
       ·rw [e] at hg
        simp at hg
        have:=hb3.size
        exact .inr (by omega)
      ·obtain ⟨g',cur',e',hB',hg',r⟩:=HRW.out h0
       refine ⟨g',cur',e',hB',hk4.fs hg' (fun ha=>?_),r⟩
       simp at ha e'
       rcases HAP.out g' ha with q1 | q1
       ·omega
       ·omega
      ·refine (HKX.out.trans hk4).fresh (fun a ha=>?_)
       simp at ha
       have:=Vc.row_ge HOW.out a ha
       exact .inr (by omega)
     case measure=>simp [intOf];omega
    ·have hje:decide ((j:Int) < (q:Int))=false:=decide_eq_false (by omega)
     obtain rfl:j=q:=by omega
     have HNX:Hid (Got K (fun id=>dirL id ∈ ss.take (i + 1)) L2):=hideIt (got_all HK.out (by have:=HN2.out;rw [← HD.out] at this;exact this) hG2 HZ.out (by rw [HQ.out];exact Nat.le_refl _))
     have HOW:=hideIt hown3
     have HKX:=hideIt hkx
     clear hG2 hown3 hap hrow3 hsz3 hkx
     go_wp2
     go_roundw
     case rel=>exact ⟨i + 1,L2,by omega,by go_num,HNX.out,HOW.out,HKX.out⟩
     case measure=>simp [intOf];omega
  ·have hie:decide ((i:Int) < (m:Int))=false:=decide_eq_false (by omega)
   obtain rfl:i=m:=by omega
   have HE:Hid (L.Perm K∧L.Pairwise fun x y=>x < y):=hideIt (got_end HK.out HN.out hG (by rw [HM.out];exact Nat.le_refl _))
   have HO:=hideIt hown
   have HKR:=hideIt hkr
   clear hown hkr hG
   go_wp2
   go_ret
   refine ⟨(HK1.out.trans HKR.out).sub (by simp),_,L,HE.out.1,HE.out.2,rfl,HO.out.1,?_⟩
   rcases HO.out.2 with h1 | ⟨g,cap,cur,h1,h2,h3⟩
   ·exact .inl h1
   ·exact .inr ⟨g,cap,cur,h1,by have:=HSZ.out;omega,h3⟩
end
end Go.Proofs.YtogjlepdejonpaaGreatDoor.Lo
namespace Go.Proofs.YtogjlepdejonpaaGreatDoor.Lo
open Vc Go.RowKit Go.Shelf
section
variable {n0:Nat} {A:Nat→Prop} {b b':Nat} {w w' w1:World} {fb room:Nat} {S S':Fs}
theorem Made.kept (h:Made n0 b w fb S w1) (hk:Kept [] w1 w'):Made n0 b w fb S w':=h.step fun _ hs=>StTo.kept hs hk
theorem Made.below (h:Made n0 b w fb S w1) (hk:Below w1.heap.size w1 w'):Made n0 b w fb S w':=h.kept (Kept.of_below hk)
theorem Made.bel (h:Made n0 b w fb S w1):Below w.heap.size w w1:=by
 obtain ⟨A,h1,h2,h3⟩:=h
 exact h3
theorem Made.to (h1:∀ g,A g→w.heap.size≤g) (h3:Below w.heap.size w w1) (k:StTo P0 n0 A b' w1 fb S' w'):Made n0 b' w fb S' w':=by
 obtain ⟨A2,k1,k2,k3⟩:=k
 refine ⟨A2,fun g hg=>?_,k2,h3.trans (k3.below h3.size h1)⟩
 rcases k1 g hg with e | e
 ·exact h1 g e
 ·exact Nat.le_trans h3.size e
def MadeD (n0 b:Nat) (w:World) (fb:Nat) (S:Fs) (w':World):Prop:=∃ A:Nat→Prop,(∀ g,A g→w.heap.size≤g)∧Dead P0 n0 A b w' fb S∧Okn n0 w'∧Below w.heap.size w w'
theorem Made.crash (h:Made n0 b w fb S w1) (hb:b < 890) (keep tn:Int) :
  Calls Tryz.prog 27 #[.pointer (some ⟨fb,0,none⟩),.int .u64 keep,.int .i64 tn] w1 fun e w'=>e=.returned (.tuple #[])∧∃ S',Fell S S' keep∧MadeD n0 (b + 1) w fb S' w':=by
 obtain ⟨A,h1,h2,h3⟩:=h
 refine (crash_rep h2.rep (by omega) keep tn).mono fun e w' ⟨he,S',hf,A2,k1,k2,k3⟩=>⟨he,S',hf,A2,fun g hg=>?_,k2,h2.ok.step (k3.below h2.rep.nw h2.rep.lo),h3.trans (k3.below h3.size h1)⟩
 rcases k1 g hg with e | e
 ·exact h1 g e
 ·exact Nat.le_trans h3.size e
theorem MadeD.up (h:MadeD n0 b w fb S w1) :
  Calls Tryz.prog 28 #[.pointer (some ⟨fb,0,none⟩)] w1 fun e w'=>e=.returned (.bool true)∧Made n0 b w fb S w':=by
 obtain ⟨A,h1,h2,h3,h4⟩:=h
 refine (up_rep h2).mono fun e w' ⟨he,A2,k1,k2,k3⟩=>⟨he,A2,fun g hg=>?_,⟨k2,h3.step (k3.below h2.nw h2.lo)⟩,h4.trans (k3.below h4.size h1)⟩
 rcases k1 g hg with e | e
 ·exact h1 g e
 ·exact Nat.le_trans h4.size e
theorem fell_one {id:List UInt8} (hl:id.length=32) {p:ByteArray} {u:Int} (h:Fell (laidS (oneS room id) id p u) S' 0):S'.now=keptN id∧S'.files 0=⟨p,p⟩:=by
 obtain ⟨l',_,h2,h3,_⟩:=h.names
 rw [h2 rfl] at h3
 refine ⟨by rw [h3];exact one_sure hl p u,?_⟩
 rw [h.same 0 (by rw [one_file]),one_file]
theorem kept_obj {id:List UInt8} (hl:id.length=32):keptN id objP=some none:=by
 unfold keptN
 rw [if_neg (obj_ne_file hl)]
 exact (one_ready (room:=0) hl).obj
theorem kept_inc {id:List UInt8} (hl:id.length=32):keptN id incP=none:=by
 unfold keptN
 rw [if_neg (Ne.symm (inc_ne_file hl))]
 exact (one_ready (room:=0) hl).inc
theorem refid_c (raw:List UInt8) (w:World) (h:raw.length≤1048576):Calls Tryz.prog 21 #[.string (Vc.bs raw)] w fun e w'=>e=.returned (.string (Vc.bs (idL raw)))∧Below w.heap.size w w':=by
 have:=Ob.refid_any (Vc.bs raw) w (by rw [Vc.bs_size];omega)
 rw [Vc.bs_list,← id_bs] at this
 exact this
set_option maxHeartbeats 1600000 in
set_option maxRecDepth 100000 in
theorem awake_any (ho:Okn n0 w) (hn:0 < n0) (hw:n0≤w.heap.size) :
  Calls Tryz.prog 18 #[] w fun e w'=>e=.returned (.bool true)∧Below w.heap.size w w':=by
 obtain ⟨raw,hraw⟩:∃ raw,blobL [120]=raw:=⟨_,rfl⟩
 have hrl:raw.length≤228:=by rw [← hraw];exact blob_len _
 have hl:=id_len raw
 have hps:=press_le raw (by omega)
 obtain ⟨fb,hfb⟩:∃ fb,w.heap.size=fb:=⟨_,rfl⟩
 have HP0:Hid (Calls Tryz.prog 14 #[] w fun e w'=>e=.returned (.tuple #[.pointer (some ⟨fb,0,none⟩),.bool true])∧Made n0 3 w fb (baseS 1048576) w'):=hideIt (by rw [← hfb];exact place_any ho hn hw)
 have HB:Hid (∀ X,Calls Tryz.prog 11 #[.string ⟨#[120]⟩] X fun e w'=>e=.returned (.string (Vc.bs raw))∧Below X.heap.size X w'):=hideIt (fun X=>by have:=blob_any [120] X;rw [hraw] at this;exact this)
 have HPU:Hid (∀ X,Made n0 3 w fb (baseS 1048576) X→Calls Tryz.prog 15 #[.pointer (some ⟨fb,0,none⟩),.string (Vc.bs raw)] X fun e w'=>e=.returned (.tuple #[.string (Vc.bs (idL raw)),.int .i64 0])∧∃ u,Made n0 9 w fb (laidS (oneS 1048576 (idL raw)) (idL raw) (prP raw) u) w'):=hideIt (fun X hX=>by
  obtain ⟨A,h1,h2,h3⟩:=hX
  have:=put_base h2 (by decide) ([120].take 200) (by decide)
  rw [show Ob.rawL 1 ([120].take 200)=raw from hraw] at this
  refine this.mono fun e w' hr=>?_
  rcases hr with ⟨h4,_⟩ | ⟨_,he,u,hs⟩
  ·omega
  ·exact ⟨he,u,Made.to h1 h3 hs⟩)
 have HCR:Hid (∀ X u,Made n0 9 w fb (laidS (oneS 1048576 (idL raw)) (idL raw) (prP raw) u) X→Calls Tryz.prog 27 #[.pointer (some ⟨fb,0,none⟩),.int .u64 0,.int .i64 0] X fun e w'=>e=.returned (.tuple #[])∧∃ S',(S'.now=keptN (idL raw)∧S'.files 0=⟨prP raw,prP raw⟩)∧MadeD n0 10 w fb S' w'):=hideIt (fun X u hX=>(hX.crash (by decide) 0 0).mono fun e w' ⟨he,S',hf,hd⟩=>⟨he,S',fell_one hl hf,hd⟩)
 have HUP:Hid (∀ X S',MadeD n0 10 w fb S' X→Calls Tryz.prog 28 #[.pointer (some ⟨fb,0,none⟩)] X fun e w'=>e=.returned (.bool true)∧Made n0 10 w fb S' w'):=hideIt (fun X S' hX=>hX.up)
 have HGE:Hid (∀ X S',(S'.now=keptN (idL raw)∧S'.files 0=⟨prP raw,prP raw⟩)→Made n0 10 w fb S' X→Calls Tryz.prog 19 #[.pointer (some ⟨fb,0,none⟩),.string (Vc.bs (idL raw))] X fun e w'=>e=.returned (.tuple #[.string (Vc.bs raw),.int .i64 0])∧Made n0 10 w fb S' w'):=hideIt (fun X S' ⟨hn',hf⟩ ⟨A,h1,h2,h3⟩=>by
  have hx:S'.now (fileP (idL raw))=some (some 0):=by rw [hn',keptN,if_pos rfl]
  refine (get_there h2 (idL raw) hl hx).mono fun e w' ⟨he,hk⟩=>⟨?_,Made.kept ⟨A,h1,h2,h3⟩ hk⟩
  rw [he,hf]
  show Ending.returned (getV (getR (prP raw) (idL raw)))=_
  rw [get_press raw (by omega)]
  rfl)
 have HRI:Hid (∀ X,Calls Tryz.prog 21 #[.string (Vc.bs raw)] X fun e w'=>e=.returned (.string (Vc.bs (idL raw)))∧Below X.heap.size X w'):=hideIt (fun X=>refid_c raw X (by omega))
 have HOP:Hid (∀ X S',(S'.now=keptN (idL raw)∧S'.files 0=⟨prP raw,prP raw⟩)→Made n0 10 w fb S' X→Calls Tryz.prog 30 #[.pointer (some ⟨fb,0,none⟩)] X fun e w'=>e=.returned (.int .i64 0)∧Below w.heap.size w w'):=hideIt (fun X S' ⟨hn',hf⟩ ⟨A,h1,h2,h3⟩=>(open_there h2 (by decide) (by rw [hn'];exact kept_obj hl) (by rw [hn'];exact kept_inc hl)).mono fun e w' ⟨he,hs⟩=>⟨he,(Made.to h1 h3 hs).bel⟩)
 obtain ⟨T1,hT1⟩:∃ T:World→Prop,T=Made n0 3 w fb (baseS 1048576):=⟨_,rfl⟩
 obtain ⟨T2,hT2⟩:∃ T:Int→World→Prop,T=fun u=>Made n0 9 w fb (laidS (oneS 1048576 (idL raw)) (idL raw) (prP raw) u):=⟨_,rfl⟩
 obtain ⟨T3,hT3⟩:∃ T:Fs→World→Prop,T=MadeD n0 10 w fb:=⟨_,rfl⟩
 obtain ⟨T4,hT4⟩:∃ T:Fs→World→Prop,T=Made n0 10 w fb:=⟨_,rfl⟩
 obtain ⟨Q,hQ⟩:∃ Q:Fs→Prop,Q=fun S'=>S'.now=keptN (idL raw)∧S'.files 0=⟨prP raw,prP raw⟩:=⟨_,rfl⟩
 replace HP0:Hid (Calls Tryz.prog 14 #[] w fun e w'=>e=.returned (.tuple #[.pointer (some ⟨fb,0,none⟩),.bool true])∧T1 w'):=by rw [hT1];exact HP0
 have HT1:Hid (∀ X Y,T1 X→Below X.heap.size X Y→T1 Y):=hideIt (by rw [hT1];exact fun X Y h k=>h.below k)
 replace HPU:Hid (∀ X,T1 X→Calls Tryz.prog 15 #[.pointer (some ⟨fb,0,none⟩),.string (Vc.bs raw)] X fun e w'=>e=.returned (.tuple #[.string (Vc.bs (idL raw)),.int .i64 0])∧∃ u,T2 u w'):=by rw [hT1,hT2];exact HPU
 replace HCR:Hid (∀ X u,T2 u X→Calls Tryz.prog 27 #[.pointer (some ⟨fb,0,none⟩),.int .u64 0,.int .i64 0] X fun e w'=>e=.returned (.tuple #[])∧∃ S',Q S'∧T3 S' w'):=by rw [hT2,hT3,hQ];exact HCR
 replace HUP:Hid (∀ X S',T3 S' X→Calls Tryz.prog 28 #[.pointer (some ⟨fb,0,none⟩)] X fun e w'=>e=.returned (.bool true)∧T4 S' w'):=by rw [hT3,hT4];exact HUP
 replace HGE:Hid (∀ X S',Q S'→T4 S' X→Calls Tryz.prog 19 #[.pointer (some ⟨fb,0,none⟩),.string (Vc.bs (idL raw))] X fun e w'=>e=.returned (.tuple #[.string (Vc.bs raw),.int .i64 0])∧T4 S' w'):=by rw [hT4,hQ];exact HGE
 have HT4:Hid (∀ X Y S',T4 S' X→Below X.heap.size X Y→T4 S' Y):=hideIt (by rw [hT4];exact fun X Y S' h k=>h.below k)
 replace HOP:Hid (∀ X S',Q S'→T4 S' X→Calls Tryz.prog 30 #[.pointer (some ⟨fb,0,none⟩)] X fun e w'=>e=.returned (.int .i64 0)∧Below w.heap.size w w'):=by rw [hT4,hQ];exact HOP
 clear hT1 hT2 hT3 hT4 hQ ho hn hw hfb hl hps hrl hraw
 generalize Vc.bs (idL raw)=i at HPU HGE HRI
 generalize Vc.bs raw=r at HB HPU HGE HRI
 have q1:(i.toList == i.toList)=true:=by simp
 have q2:(r.toList == r.toList)=true:=by simp
 go_enter Tryz.func18,Tryz.ntmps18
 go_wp2_with (first
  | (go_at_call 14;refine HP0.out.mono ?_;rintro e w1 ⟨rfl,ht1⟩)
  | (go_at_call 15;refine (HPU.out _ (HT1.out _ _ ht1 hb2)).mono ?_;rintro e w3 ⟨rfl,u,ht3⟩)
  | (go_at_call 27;refine (HCR.out _ _ ht3).mono ?_;rintro e w4 ⟨rfl,S4,hq4,ht4⟩)
  | (go_at_call 28;refine (HUP.out _ _ ht4).mono ?_;rintro e w5 ⟨rfl,ht5⟩)
  | (go_at_call 19;refine (HGE.out _ _ hq4 ht5).mono ?_;rintro e w6 ⟨rfl,ht6⟩)
  | (go_at_call 21;refine (HRI.out _).mono ?_;rintro e w8 ⟨rfl,hb8⟩)
  | (go_at_call 30;refine (HOP.out _ _ hq4 (HT4.out _ _ _ (HT4.out _ _ _ ht6 hb2) hb8)).mono ?_;rintro e w9 ⟨rfl,hb9⟩)
  | (go_at_call 11;refine (HB.out _).mono ?_;rintro e w2 ⟨rfl,hb2⟩))
 go_ret
 exact ⟨rfl,Ob.below2 hb9 hb2⟩
end
end Go.Proofs.YtogjlepdejonpaaGreatDoor.Lo
namespace Go.Proofs.YtogjlepdejonpaaGreatDoor.Lo
open Go.ChangeShapes Go.WideShapes Go.ChangeAt Go.WideMaps Go.WideElems Go.RowKit Go.Deep
set_option maxRecDepth 100000
def TCells (w:World) (b o:Nat) (l:List ByteArray):Prop:=b < w.heap.size∧∀ (i:Nat) (x:ByteArray),l[i]? = some x→w.cell? ⟨b,o + i,none⟩=some (.string x)
def TRow (w:World) (v:Value) (l:List ByteArray):Prop:=∃ a c,v=.slice a l.length c∧l.length≤c∧(c≤maxLen∧(a=none→c=0))∧(0 < l.length→∃ b o,a=some ⟨b,o,none⟩∧TCells w b o l)
theorem pcells9:Tryz.prog.cellsOf 9=1:=by kernel_rfl
theorem pcell_lt {w:World} {a:Addr} {v:Value} (h:w.cell? a=some v):a.block < w.heap.size:=by
 rcases Nat.lt_or_ge a.block w.heap.size with h' | h'
 ·exact h'
 ·have:w.heap[a.block]? = none:=Array.getElem?_eq_none h'
  simp [World.cell?,this] at h
theorem pcell_none {w:World} {b o:Nat} {sp:Option Nat} {v:Value} (h:w.cell? ⟨b,o,sp⟩=some v):sp=none:=by
 cases sp with
 | none=>rfl
 | some k =>
  unfold World.cell? at h
  split at h <;> simp at h
theorem padd (b o i:Nat):((⟨b,o,none⟩:Addr).add i)=⟨b,o + i,none⟩:=by
 unfold Addr.add
 by_cases hi:i=0 <;> simp [hi]
theorem open_texts {H:Type} {enc:TypeId × Value→H} {W:World} {fuel:Nat} {v:Value} {y:DataW H × List MemPlace} (hf:DataW.trod enc Tryz.prog W 0 (fun _=>true) true fuel 22 [v]=some y) :
  ∃ l:List ByteArray,TRow W v l∧(∀ p ∈ y.2,p.block < W.heap.size):=by
 rcases open_slice Tryz.underlying22 hf with ⟨hcs,hx⟩ | ⟨a,len,cap,m,n,D,Pl,hcs,hb,hl,hm,hmm,hx,hel⟩
 ·simp only [List.cons.injEq,and_true] at hcs
  subst hcs
  refine ⟨[],⟨none,0,rfl,Nat.le_refl _,⟨Nat.zero_le _,fun _=>rfl⟩,fun h=>by simp at h⟩,?_⟩
  rw [hx]
  simp
 ·simp only [List.cons.injEq,and_true] at hcs
  subst hcs
  simp only [if_true] at hmm
  subst hmm
  rw [pcells9] at hel hx
  obtain ⟨E,hE⟩:=choose_lt (α:=ByteArray) (p:=fun i x=>W.cell? (a.add i)=some (.string x)∧Pl i=[]) (n:=m) (fun i hi=>by
   obtain ⟨cs',h1,h2⟩:=hel i hi
   obtain ⟨z,rfl,hz,_⟩:=DataW.trod_string Tryz.underlying9 h2
   obtain ⟨_,_,hc⟩:=World.cells?_some h1
   have:=hc 0 (by omega)
   simp only [Nat.mul_one] at this
   refine ⟨z,?_,?_⟩
   ·simpa [Addr.add] using this
   ·simpa using congrArg Prod.snd hz)
  have hlt:0 < m→a.block < W.heap.size∧a.spot=none:=by
   intro h0
   have h1:W.cell? a=some (.string (E 0)):=by
    have:=(hE 0 h0).1
    simpa [Addr.add] using this
   exact ⟨pcell_lt h1,by obtain ⟨b,o,sp⟩:=a;exact pcell_none h1⟩
  refine ⟨(List.range len).map E,⟨some a,m,by simp,by simpa using hl,⟨hm,fun h=>by cases h⟩,fun h0=>?_⟩,?_⟩
  ·have h0':0 < len:=by simpa using h0
   obtain ⟨h1,h2⟩:=hlt (by omega)
   refine ⟨a.block,a.off,by rw [← h2],h1,fun i x hx=>?_⟩
   have hi:i < len:=by have:=(List.getElem?_eq_some_iff.1 hx).1;simpa using this
   have hxe:x=E i:=by
    rw [List.getElem?_map,List.getElem?_range hi] at hx
    simpa using hx.symm
   subst hxe
   have e0:=(hE i (by omega)).1
   obtain ⟨b,o,sp⟩:=a
   simp only at h2
   subst h2
   rw [padd] at e0
   exact e0
  ·intro p hp
   rw [hx] at hp
   rcases List.mem_append.1 hp with hp | hp
   ·obtain ⟨k,hk,rfl⟩:=MemPlace.mem_row.1 hp
    exact (hlt (by omega)).1
   ·obtain ⟨i,hi,hp⟩:=List.mem_flatMap.1 hp
    rw [(hE i (List.mem_range.1 hi)).2] at hp
    cases hp
theorem open_texts_arg {H:Type} {enc:TypeId × Value→H} {W:World} {b0:Nat} {r:Reach} {v:Value} {d:DataW H} {ps:List MemPlace} (hv:Value.okWide Tryz.prog W r b0 22 v) (h:DataW.Trod enc Tryz.prog W 0 (fun _=>true) true 22 v d ps) :
  ∃ l:List ByteArray,TRow W v l∧(∀ p ∈ ps,p.block < W.heap.size):=by
 obtain ⟨a0,len0,cap0,rfl⟩:=okWide_slice Tryz.underlying22 hv
 obtain ⟨fuel,hf⟩:=h
 have hf':DataW.trod enc Tryz.prog W 0 (fun _=>true) true fuel 22 [.slice a0 len0 cap0]=some (d,ps):=hf
 exact open_texts hf'
end Go.Proofs.YtogjlepdejonpaaGreatDoor.Lo
namespace Go.Proofs.YtogjlepdejonpaaGreatDoor.Lo
open Vc Go.RowKit Go.Shelf Go.Maps Go.Sort
def twin (a b:ByteArray):Prop:=idL b.data.toList=idL a.data.toList∧b.data.toList≠a.data.toList
def TwinUp (l:List ByteArray) (n k:Nat):Prop:=∃ (i j:Nat) (a b:ByteArray),j < i∧(i < n∨(i=n∧j < k))∧l[i]? = some a∧l[j]? = some b∧twin a b
def TwinIn (l:List ByteArray):Prop:=TwinUp l l.length 0
def idV (x:ByteArray):Value:=.string (Vc.bs (idL x.data.toList))
theorem twin_step {l:List ByteArray} {n k:Nat} {a b:ByteArray} (ha:l[n]? = some a) (hb:l[k]? = some b) (h:TwinUp l n (k + 1)):TwinUp l n k∨twin a b:=by
 obtain ⟨i,j,x,y,h1,h2,h3,h4,h5⟩:=h
 rcases h2 with h2 | ⟨rfl,h2⟩
 ·exact .inl ⟨i,j,x,y,h1,.inl h2,h3,h4,h5⟩
 ·by_cases e:j=k
  ·subst e
   rw [ha] at h3
   rw [hb] at h4
   cases h3
   cases h4
   exact .inr h5
  ·exact .inl ⟨i,j,x,y,h1,.inr ⟨rfl,by omega⟩,h3,h4,h5⟩
theorem twin_next {l:List ByteArray} {n:Nat} (h:TwinUp l (n + 1) 0):TwinUp l n n:=by
 obtain ⟨i,j,x,y,h1,h2,h3,h4,h5⟩:=h
 rcases h2 with h2 | ⟨_,h2⟩
 ·by_cases e:i=n
  ·exact ⟨i,j,x,y,h1,.inr ⟨e,by omega⟩,h3,h4,h5⟩
  ·exact ⟨i,j,x,y,h1,.inl (by omega),h3,h4,h5⟩
 ·omega
theorem id_str (x:ByteArray) (w:World) (h:x.size≤1048576):Calls Tryz.prog 21 #[.string x] w fun e w'=>e=.returned (.string (Vc.bs (idL x.data.toList)))∧Below w.heap.size w w':=by
 have:=refid_c x.data.toList w (by rw [Vc.str_len];exact h)
 rw [Vc.bs_data] at this
 exact this
theorem row_ge8 {w:World} {B n s:Nat} {t:TypeId} {v:Value} {xs:List Value} (h:w.ownsRow B t s v n xs):∀ b,v.ownBlock=some b→B≤b:=by
 intro b hb
 rcases h.2 with ⟨rfl,_⟩ | ⟨g,cap,cur,rfl,h1,_⟩
 ·simp [Value.ownBlock] at hb
 ·simp [Value.ownBlock] at hb
  omega
theorem bs_eq (a b:List UInt8):((Vc.bs a).toList == (Vc.bs b).toList)=decide (a=b):=by
 rw [ByteArray.toList_eq,ByteArray.toList_eq,Vc.bs_list,Vc.bs_list]
 by_cases h:a=b
 ·subst h;simp
 ·rw [decide_eq_false h,beq_eq_false_iff_ne];exact h
theorem ids_snoc (l:List ByteArray) (i:Nat) (x:ByteArray) (h:l[i]? = some x):(l.take (i + 1)).map idV=(l.take i).map idV ++ [idV x]:=by
 obtain ⟨hi,rfl⟩:=List.getElem?_eq_some_iff.1 h
 rw [List.take_succ_eq_append_getElem hi,List.map_append]
 rfl
set_option maxHeartbeats 3200000 in
set_option maxRecDepth 100000 in
theorem twins_any (l:List ByteArray) (v:Value) (w:World) (h:TRow w v l) (hn:l.length≤1000) (hs:∀ x ∈ l,x.size≤1048576) :
  Calls Tryz.prog 9 #[v] w fun e w'=>(∃ y,e=.returned (.bool y)∧(TwinIn l→y=true))∧Below w.heap.size w w':=by
 obtain ⟨i0,hi0,hz0,hz1,hz2⟩:=info_parts infoStr
 obtain ⟨la,lc,rfl,hl1,hl2,hl3⟩:=h
 obtain ⟨n,hnn⟩:∃ n,l.length=n:=⟨_,rfl⟩
 have HN:=hideIt hnn
 have HTI:Hid (TwinIn l→TwinUp l n 0):=hideIt (by rw [← hnn];exact fun h=>h)
 rw [hnn] at hl1 hl3 hn ⊢
 have HL3:=hideIt hl3
 have HS:=hideIt hs
 clear hl3 hs hnn hl1 hl2
 have nI:(n:Int)≤1000:=by omega
 go_enter Tryz.func9,Tryz.ntmps9
 go_wp2
 go_loopw [2,3,4] (fun a u t wr=>∃ (i:Nat) (y:Bool),i≤n∧t=.int .i64 i∧a=.bool y∧Hid (TwinUp l i 0→y=true)∧wr.ownsRow w.heap.size 9 1 u i ((l.take i).map idV)∧Below w.heap.size w wr) (fun _ _ t _=>n - (intOf t).toNat)
 case atStart=>exact ⟨0,false,by omega,rfl,rfl,hideIt (by rintro ⟨i,j,_,_,h1,h2,_⟩;omega),⟨rfl,.inr ⟨w.heap.size,0,#[],rfl,Nat.le_refl _,alloc_at rfl,by simp,by simp,rfl,rfl⟩⟩,(Below.refl _ w).alloc (Nat.le_refl _) _⟩
 case round =>
  obtain ⟨i,y,hi,rfl,rfl,HY,hrow,hb⟩:=hrel
  have HO:=hideIt hrow
  have HB:=hideIt hb
  clear hrow hb
  by_cases hlt:i < n
  ·have hid:decide ((i:Int) < (n:Int))=true:=decide_eq_true (by omega)
   have i1:(i:Int) < (n:Int):=by omega
   obtain ⟨x,hx⟩:∃ x,l[i]? = some x:=⟨_,List.getElem?_eq_getElem (by rw [HN.out];exact hlt)⟩
   obtain ⟨lb,lo,rfl,hlb,hlc⟩:=HL3.out (by omega)
   have x0:wr.cell? ⟨lb,lo + i,none⟩=some (.string x):=by
    rw [HB.out.cell (p:=⟨lb,lo + i,none⟩) hlb]
    exact hlc i x hx
   have HID:=hideIt (id_str x wr (HS.out x (List.mem_of_getElem? hx)))
   have HX:=hideIt hx
   have HLC:=hideIt (And.intro hlb hlc)
   obtain ⟨I,hI⟩:∃ I,Vc.bs (idL x.data.toList)=I:=⟨_,rfl⟩
   rw [hI] at HID
   have HI:=hideIt hI
   clear hx hlc hI
   go_wp2_with (go_at_call 21;refine HID.out.mono ?_;rintro e w1 ⟨rfl,hb1⟩;have HB1:=hideIt hb1;clear hb1)
   have HO1:=hideIt ((Kept.of_below HB1.out).row HO.out (fun _ _=>by simp))
   have HBB:Hid (Below w.heap.size w w1):=hideIt (HB.out.trans (HB1.out.mono HB.out.size))
   clear x0
   go_loopw [2,6] (fun a t wr2=>∃ (k q:Nat) (z:Bool),k≤i∧t=.int .i64 k∧a=.bool z∧Hid (TwinUp l i k→z=true)∧wr2=w1.drewN q) (fun _ t _=>i - (intOf t).toNat)
   case atStart=>exact ⟨0,0,y,by omega,rfl,rfl,HY,rfl⟩
   case round =>
    obtain ⟨k,q,z,hk,rfl,rfl,HZ,rfl⟩:=hrel
    by_cases hkl:k < i
    ·have hkd:decide ((k:Int) < (i:Int))=true:=decide_eq_true (by omega)
     have k1:(k:Int) < (i:Int):=by omega
     have k2:(k:Int) < (n:Int):=by omega
     obtain ⟨y0,hy0⟩:∃ x,l[k]? = some x:=⟨_,List.getElem?_eq_getElem (by rw [HN.out];omega)⟩
     have xi:w1.cell? ⟨lb,lo + i,none⟩=some (.string x):=by
      rw [HBB.out.cell (p:=⟨lb,lo + i,none⟩) HLC.out.1]
      exact HLC.out.2 i x HX.out
     have xk:w1.cell? ⟨lb,lo + k,none⟩=some (.string y0):=by
      rw [HBB.out.cell (p:=⟨lb,lo + k,none⟩) HLC.out.1]
      exact HLC.out.2 k y0 hy0
     have ho:=HO1.out
     rcases ho.2 with ⟨_,e2⟩ | ⟨g,cap,cur,rfl,hge,hg,_⟩
     ·omega
     have ck:=ho.cellAt k (by omega)
     have hmk:((l.take i).map idV)[k]? = some (idV y0):=by rw [List.getElem?_map,List.getElem?_take,if_pos hkl,hy0];rfl
     rw [hmk,idV] at ck
     have HST:=hideIt (fun h=>twin_step HX.out hy0 h)
     clear ho hge hg hmk hy0
     cases z with
     | true =>
      go_wp2
      go_quiet (fail)
      go_wp2
      go_roundw
      case rel=>exact ⟨k + 1,_,true,by omega,by go_num,rfl,hideIt (fun _=>rfl),rfl⟩
      case measure=>simp [intOf];omega
     | false =>
      have hnt:¬ TwinUp l i k:=fun h=>by cases HZ.out h
      by_cases he:idL y0.data.toList=idL x.data.toList
      ·have q1:((Vc.bs (idL y0.data.toList)).toList == I.toList)=true:=by rw [← HI.out,bs_eq];exact decide_eq_true he
       by_cases hu:y0.data.toList=x.data.toList
       ·have q2:(y0.toList == x.toList)=true:=by rw [ByteArray.toList_eq,ByteArray.toList_eq,hu];simp
        have HC:Hid (TwinUp l i (k + 1)→false=true):=hideIt (fun h=>(HST.out h).elim (fun h=>absurd h hnt) (fun h=>absurd hu h.2))
        generalize Vc.bs (idL y0.data.toList)=J at ck q1
        clear he hu hnt
        go_wp2
        go_quiet (fail)
        go_wp2
        go_roundw
        case rel=>exact ⟨k + 1,_,false,by omega,by go_num,rfl,HC,rfl⟩
        case measure=>simp [intOf];omega
       ·have q2:(y0.toList == x.toList)=false:=by rw [ByteArray.toList_eq,ByteArray.toList_eq];exact beq_eq_false_iff_ne.2 hu
        generalize Vc.bs (idL y0.data.toList)=J at ck q1
        clear he hu hnt
        go_wp2
        go_quiet (fail)
        go_wp2
        go_roundw
        case rel=>exact ⟨k + 1,_,true,by omega,by go_num,rfl,hideIt (fun _=>rfl),rfl⟩
        case measure=>simp [intOf];omega
      ·have q1:((Vc.bs (idL y0.data.toList)).toList == I.toList)=false:=by rw [← HI.out,bs_eq];exact decide_eq_false he
       have HC:Hid (TwinUp l i (k + 1)→false=true):=hideIt (fun h=>(HST.out h).elim (fun h=>absurd h hnt) (fun h=>absurd h.1 he))
       generalize Vc.bs (idL y0.data.toList)=J at ck q1
       clear he hnt
       go_wp2
       go_quiet (fail)
       go_wp2
       go_roundw
       case rel=>exact ⟨k + 1,_,false,by omega,by go_num,rfl,HC,rfl⟩
       case measure=>simp [intOf];omega
    ·have hkd:decide ((k:Int) < (i:Int))=false:=decide_eq_false (by omega)
     obtain rfl:k=i:=by omega
     have hO2:=HO1.out
     have hBs:w.heap.size≤w1.heap.size:=HBB.out.size
     go_wp2_with (at_builtin;refine wpList_append_own _ rfl _ _ 22 rfl w.heap.size 9 i0 (.string ⟨#[]⟩) 1 16 Tryz.underlying22 hi0 hz0 hz1 hz2 rfl (by decide) _ _ _ rfl (World.ownsRow.alloc (w:=w1.drewN q) hO2 _) ⟨w1.heap.size,0,none⟩ 1 1 [.string I] rfl rfl (cell_one_new _ _ _) (fun x hx=>by simp at hx;subst hx;rfl) (by unfold maxLen;omega) (by omega) (by simp;omega) ?_;intro v3 w3 hown3 hg3 hnil3)
     go_roundw
     case rel =>
      refine ⟨k + 1,z,by omega,by go_num,rfl,hideIt (fun h=>HZ.out (twin_next h)),?_,?_⟩
      ·rw [ids_snoc l k x HX.out,idV,HI.out]
       simpa using hown3
      ·have hbq:Below w.heap.size w (w1.drewN q):=HBB.out.trans ⟨rfl,rfl,rfl,Nat.le_refl _,fun _ _=>rfl⟩
       exact (hbq.alloc hBs _).grown hg3 (by simp;omega) (fun b hb=>row_ge8 HO1.out b hb)
     case measure=>simp [intOf];omega
  ·have hid:decide ((i:Int) < (n:Int))=false:=decide_eq_false (by omega)
   obtain rfl:i=n:=by omega
   go_wp2
   go_ret
   exact ⟨⟨y,rfl,fun h=>HY.out (HTI.out h)⟩,HB.out⟩
end Go.Proofs.YtogjlepdejonpaaGreatDoor.Lo
namespace Go.Proofs.YtogjlepdejonpaaGreatDoor.Lo
open Vc Go.RowKit Go.Shelf
theorem refpress_c (raw:List UInt8) (w:World) (h:raw.length≤1048576):Calls Tryz.prog 31 #[.string (Vc.bs raw)] w fun e w'=>e=.returned (.string (prP raw))∧Below w.heap.size w w':=by
 have:=Ld.refpress_any (Vc.bs raw) w (by rw [Vc.bs_size];exact h)
 rw [Vc.bs_list] at this
 exact this
section
variable {n0:Nat} {b:Nat} {w w' w1:World} {fb:Nat} {S:Fs}
end
end Go.Proofs.YtogjlepdejonpaaGreatDoor.Lo
namespace Go.Proofs.YtogjlepdejonpaaGreatDoor.Lo
open Vc Go.RowKit Go.Shelf Go.Maps Go.Sort
def Hv (w:World) (mb i:Nat) (K T:List (List UInt8)) (D:DataW Value):Prop :=
 w.ownsMap Tryz.prog 9 (plainElem (H:=Value) Tryz.prog 9) mb i D∧(∀ id:List UInt8,Maps.has D (.string id)=true↔id ∈ K)∧(Maps.size D=K.length∧K.Nodup)∧∀ id ∈ K,∃ raw ∈ T,idL raw=id∧∀ z,D.atKey (.string id) z=.lit (.string raw)
structure PSt (n0:Nat) (W:World) (fb mb i:Nat) (T:List (List UInt8)) (A:Nat→Prop) (b:Nat) (S:Fs) (K:List (List UInt8)) (w:World):Prop where
 bb:b≤3 + 6 * i
 kp:Kp S K
 kl:K.length≤i
 us:S.used≤1208 * (i:Int)
 rm:S.room=1048576
 ge:∀ g,A g→W.heap.size≤g
 nm:¬ A mb
 mg:W.heap.size≤mb
 ml:mb < w.heap.size
 st:St P0 n0 A b w fb S
 be:Below W.heap.size W w
 fo:Fo S K (· ∈ T)
def PRun (n0:Nat) (W:World) (fb mb i:Nat) (T:List (List UInt8)) (w:World):Prop:=∃ A b S K D,PSt n0 W fb mb i T A b S K w∧Hv w mb i K T D
def PMid (n0:Nat) (W:World) (fb mb i:Nat) (T:List (List UInt8)) (id:List UInt8) (w:World):Prop:=∃ A b S K K0 D,PSt n0 W fb mb (i + 1) T A b S K w∧Hv w mb i K0 T D∧∀ x,x ∈ K↔x=id∨x ∈ K0
def PAft (n0:Nat) (W:World) (fb mb i:Nat) (T:List (List UInt8)) (id:List UInt8) (w:World):Prop:=∃ A b S K D,PSt n0 W fb mb i T A b S K w∧Hv w mb i K T D∧id ∈ K
section
variable {n0:Nat} {W w w':World} {fb mb i:Nat} {T:List (List UInt8)} {A:Nat→Prop} {b:Nat} {S:Fs} {K:List (List UInt8)} {D:DataW Value}
theorem Hv.same (h:Hv w mb i K T D) (hb:w'.heap[mb]? = w.heap[mb]?):Hv w' mb i K T D:=by
 obtain ⟨⟨es,cl,h1,h2⟩,h3⟩:=h
 exact ⟨⟨es,cl,by rw [hb];exact h1,h2⟩,h3⟩
theorem Hv.more (h:Hv w mb i K T D) {j:Nat} (hj:i≤j) {T':List (List UInt8)} (hT:∀ x ∈ T,x ∈ T'):Hv w mb j K T' D:=by
 obtain ⟨h1,h2,h3,h4⟩:=h
 refine ⟨h1.mono hj,h2,h3,fun id hi=>?_⟩
 obtain ⟨raw,hr,h5⟩:=h4 id hi
 exact ⟨raw,hT raw hr,h5⟩
theorem PSt.kept (h:PSt n0 W fb mb i T A b S K w) (hk:Kept [] w w'):PSt n0 W fb mb i T A b S K w' :=
 { h with ml:=Nat.lt_of_lt_of_le h.ml hk.size,st:=h.st.kept hk,be:=h.be.trans ((Out.kept (A:=A) hk).below h.be.size h.ge) }
theorem PSt.more (h:PSt n0 W fb mb i T A b S K w) {j:Nat} (hj:i≤j) {T':List (List UInt8)} (hT:∀ x ∈ T,x ∈ T'):PSt n0 W fb mb j T' A b S K w :=
 { h with bb:=by have:=h.bb;omega,kl:=Nat.le_trans h.kl hj,us:=by have:=h.us;omega,fo:=h.fo.mono hT }
theorem PRun.kept (h:PRun n0 W fb mb i T w) (hk:Kept [] w w'):PRun n0 W fb mb i T w':=by
 obtain ⟨A,b,S,K,D,h1,h2⟩:=h
 exact ⟨A,b,S,K,D,h1.kept hk,h2.same (hk.block mb h1.ml (by simp))⟩
theorem PRun.more (h:PRun n0 W fb mb i T w) {j:Nat} (hj:i≤j) {T':List (List UInt8)} (hT:∀ x ∈ T,x ∈ T'):PRun n0 W fb mb j T' w:=by
 obtain ⟨A,b,S,K,D,h1,h2⟩:=h
 exact ⟨A,b,S,K,D,h1.more hj hT,h2.more hj hT⟩
theorem PRun.bel (h:PRun n0 W fb mb i T w):Below W.heap.size W w:=by
 obtain ⟨A,b,S,K,D,h1,_⟩:=h
 exact h1.be
theorem PRun.ok (h:PRun n0 W fb mb i T w):Ob.Ok w:=by
 obtain ⟨A,b,S,K,D,h1,_⟩:=h
 exact h1.st.ok.ok
theorem PAft.run {id:List UInt8} (h:PAft n0 W fb mb i T id w):PRun n0 W fb mb i T w:=by
 obtain ⟨A,b,S,K,D,h1,h2,_⟩:=h
 exact ⟨A,b,S,K,D,h1,h2⟩
theorem prun_start (h:Made n0 3 W fb (baseS 1048576) w) (hW:W.heap.size≤w.heap.size):PRun n0 W fb w.heap.size 0 [] (w.alloc (.map #[] 0)):=by
 obtain ⟨A,h1,h2,h3⟩:=h
 have hk:Kept [] w (w.alloc (.map #[] 0)):=Kept.alloc _ _
 refine ⟨A,3,_,[],_,⟨by omega,kp_base _,by simp,by show (0:Int)≤_;omega,rfl,h1,fun hA=>by have:=h2.rep.inA _ hA;omega,hW,by simp,h2.kept hk,h3.trans ((Out.kept (A:=A) hk).below h3.size h1),fun _ h=>by cases h⟩,World.ownsMap_made w _ _ _,fun id=>?_,⟨rfl,List.nodup_nil⟩,fun _ h=>by cases h⟩
 simp [Maps.has]
theorem len_same {K K':List (List UInt8)} {id:List UInt8} (h1:K.Nodup) (h2:K'.Nodup) (h:∀ x,x ∈ K'↔x=id∨x ∈ K):K'.length=if id ∈ K then K.length else K.length + 1:=by
 by_cases hi:id ∈ K
 ·rw [if_pos hi]
  have a1:=h2.length_le_of_subset (l₂:=K) fun x hx=>((h x).1 hx).elim (fun e=>e ▸ hi) (fun e=>e)
  have a2:=h1.length_le_of_subset (l₂:=K') fun x hx=>(h x).2 (.inr hx)
  omega
 ·rw [if_neg hi]
  have a1:=h2.length_le_of_subset (l₂:=id :: K) fun x hx=>List.mem_cons.2 ((h x).1 hx)
  have a2:=(List.nodup_cons.2 ⟨hi,h1⟩).length_le_of_subset (l₂:=K') fun x hx=>(h x).2 (List.mem_cons.1 hx)
  simp at a1 a2
  omega
theorem PRun.put (h:PRun n0 W fb mb i T w) (hi:i < 12) (raw:List UInt8) (hr:raw.length≤300) (HL:Calls Tryz.prog 37 #[.string (Vc.bs raw)] w fun e w'=>(∃ v,e=.returned (.tuple #[v,.int .i64 0]))∧Below w.heap.size w w') :
  Calls Tryz.prog 15 #[.pointer (some ⟨fb,0,none⟩),.string (Vc.bs raw)] w fun e w'=>e=.returned (.tuple #[.string (Vc.bs (idL raw)),.int .i64 0])∧PMid n0 W fb mb i (raw :: T) (idL raw) w':=by
 obtain ⟨A,b,S,K,D,h1,h2⟩:=h
 have hps:=press_le raw (by omega)
 have hbb:=h1.bb
 have hus:=h1.us
 have hkl:=h1.kl
 refine (put_kpx h1.st h1.kp (by omega) raw (by omega) (by rw [h1.rm];omega) HL).mono fun e w' ⟨he,S',b',K',q1,q2,q3,q4,q5,q6,A',r1,r2,r3⟩=>⟨he,A',b',S',K',K,D,⟨by omega,q2,?_,by omega,by rw [q4,h1.rm],fun g hg=>(r1 g hg).elim (h1.ge g) (fun e=>Nat.le_trans h1.be.size e),fun hg=>(r1 mb hg).elim h1.nm (fun e=>by have:=h1.ml;omega),h1.mg,Nat.lt_of_lt_of_le h1.ml r3.size,r2,h1.be.trans (r3.below h1.be.size h1.ge),q6 _ (h1.fo.mono fun x hx=>List.mem_cons_of_mem _ hx) (by simp)⟩,?_,q5⟩
 ·have:=len_same h1.kp.nd q2.nd q5
  rw [this]
  split <;> omega
 ·refine (h2.more (Nat.le_refl _) fun x hx=>List.mem_cons_of_mem _ hx).same ?_
  obtain ⟨es,cl,hm,_⟩:=h2.1
  rw [hm]
  exact r3.same mb _ hm h1.nm
theorem PMid.map {raw:List UInt8} (h:PMid n0 W fb mb i (raw :: T) (idL raw) w) (hz:0 < W.heap.size) (hn:n0≤W.heap.size) :
  ∃ D:DataW Value,w.ownsMap Tryz.prog 9 (plainElem (H:=Value) Tryz.prog 9) mb i D∧∀ w1:World,w1.ownsMap Tryz.prog 9 (plainElem (H:=Value) Tryz.prog 9) mb (i + 1) (D.put (.string (idL raw)) (.lit (.string raw)))→w.grownBy w1 (some mb)→PAft n0 W fb mb (i + 1) (raw :: T) (idL raw) w1:=by
 obtain ⟨A,b,S,K,K0,D,h1,h2,h3⟩:=h
 refine ⟨D,h2.1,fun w1 hs hg=>?_⟩
 have hi:idL raw ∈ K:=(h3 _).2 (.inl rfl)
 have hb1:Below W.heap.size w w1:=(Below.refl _ w).grown hg h1.be.size (fun k hk=>by simp at hk;subst hk;exact h1.mg)
 have same:∀ (g:Nat) (o:Obj),w.heap[g]? = some o→g≠mb→w1.heap[g]? = some o:=fun g o hg0 hne=>by
  rw [hg.block g (block_lt hg0) (by simpa using hne)];exact hg0
 have hst:St P0 n0 A b w1 fb S:=⟨h1.st.rep.stay hg.size (h1.st.rep.max.base hb1 hz) (fun g o hg0 hA=>same g o hg0 (fun e=>h1.nm (e ▸ hA))),h1.st.ok.step (hb1.mono hn)⟩
 obtain ⟨g1,g2,g3,g4⟩:=h2
 have ht:=g1.tidy (Go.Maps.string_keyed Tryz.underlying9)
 have hkey:WideAt.IsKeyLit (.string (idL raw)):=by trivial
 refine ⟨A,b,S,K,_,{ h1 with ml:=Nat.lt_of_lt_of_le h1.ml hg.size,st:=hst,be:=h1.be.trans hb1 },⟨hs,fun id=>?_,?_,fun id hid=>?_⟩,hi⟩
 ·by_cases e:id=idL raw
  ·subst e
   rw [Maps.has_put_same ht.isMap hkey]
   exact ⟨fun _=>hi,fun _=>rfl⟩
  ·rw [Maps.has_put_other (fun h=>e (by simpa using h)),g2 id,h3 id]
   exact ⟨.inr,fun h=>h.resolve_left e⟩
 ·refine ⟨?_,h1.kp.nd⟩
  rw [Maps.size_put ht,g3.1,len_same g3.2 h1.kp.nd h3]
  by_cases hm:idL raw ∈ K0
  ·rw [if_pos ((g2 _).2 hm),if_pos hm]
  ·rw [if_neg (fun e=>hm ((g2 _).1 e)),if_neg hm]
 ·by_cases e:id=idL raw
  ·subst e
   exact ⟨raw,by simp,rfl,fun z=>Maps.atKey_put_same ht.isMap hkey _ z⟩
  ·have hid0:id ∈ K0:=((h3 id).1 hid).resolve_left e
   obtain ⟨r,hr,he,ha⟩:=g4 id hid0
   exact ⟨r,hr,he,fun z=>by rw [Maps.atKey_put_other (fun h=>e (by simpa using h))];exact ha z⟩
theorem PAft.reads {id:List UInt8} (h:PAft n0 W fb mb i T id w):∃ raw,idL raw=id∧raw.length≤1048576∧raw ∈ T∧(∀ X,Kept [] w X→Calls Tryz.prog 33 #[.pointer (some ⟨fb,0,none⟩),.string (fileP id)] X fun e w'=>e=.returned (.tuple #[.string (prP raw),.int .i64 0])∧Kept [] X w') ∧
   ∀ X,Kept [] w X→Calls Tryz.prog 25 #[.pointer (some ⟨fb,0,none⟩),.string (Vc.bs id)] X fun e w'=>e=.returned (.bool true)∧Kept [] X w':=by
 obtain ⟨A,b,S,K,D,h1,h2,h3⟩:=h
 obtain ⟨raw,a1,a2,a3,a4,_,a6⟩:=read_fo h1.st h1.kp h1.fo h3
 exact ⟨raw,a1,a2,a3,a4,a6⟩
def PEnd (fb mb B:Nat) (T L:List (List UInt8)) (W0 W:World) (w:World):Prop :=
 (∀ X,Kept [] w X→Below W0.heap.size W0 X)∧w=W∧mb < w.heap.size∧B≤w.heap.size∧(L.Pairwise fun x y=>x < y)∧(∀ id ∈ L,id.length=32) ∧
 ∀ id ∈ L,∃ raw raw2,idL raw=id∧raw ∈ T∧idL raw2=id∧raw2 ∈ T ∧
  (∀ X,Kept [] w X→Calls Tryz.prog 19 #[.pointer (some ⟨fb,0,none⟩),.string (Vc.bs id)] X fun e w'=>e=.returned (.tuple #[.string (Vc.bs raw),.int .i64 0])∧Kept [] X w') ∧
  ∀ X,Kept [] w X→(Instr.lookup 49 (.map (some mb)) (.string (Vc.bs id)) false).run Tryz.prog X=.ok (.string (Vc.bs raw2)) X
theorem PRun.list (h:PRun n0 W fb mb i T w) (hi:i≤12):∃ (n:Nat) (D:DataW Value),n≤12∧Maps.size D=n ∧
  Calls Tryz.prog 22 #[.pointer (some ⟨fb,0,none⟩)] w fun e w'=>∃ L v,L.length=n∧e=.returned v∧w'.ownsRow w.heap.size 9 1 v n (L.map encStr)∧w'.ownsMap Tryz.prog 9 (plainElem (H:=Value) Tryz.prog 9) mb 12 D∧PEnd fb mb w.heap.size T L W w' w':=by
 obtain ⟨A,b,S,K,D,h1,h2⟩:=h
 have hkl:=h1.kl
 have hbb:=h1.bb
 refine ⟨K.length,D,by omega,h2.2.2.1.1,(list_any h1.st h1.kp.names (by omega) (by omega)).mono fun e w' ⟨hk,v,L,hp,hs,he,ho⟩=>?_⟩
 have hL:L.length=K.length:=hp.length_eq
 have k1:=h1.kept hk
 have k2:=h2.same (w':=w') (hk.block mb h1.ml (by simp))
 refine ⟨L,v,hL,he,by rw [← hL];exact ho,k2.1.mono hi,fun X hX=>(k1.kept hX).be,rfl,k1.ml,hk.size,hs,fun id hid=>h1.kp.len id (hp.mem_iff.1 hid),fun id hid=>?_⟩
 have hidK:=hp.mem_iff.1 hid
 obtain ⟨raw,a1,a2,a3,_,a5,_⟩:=read_fo k1.st k1.kp k1.fo hidK
 obtain ⟨g1,g2,g3,g4⟩:=k2
 obtain ⟨raw2,b1,b2,b3⟩:=g4 id hidK
 refine ⟨raw,raw2,a1,a3,b2,b1,a5,fun X hX=>?_⟩
 have hX1:X.ownsMap Tryz.prog 9 (plainElem (H:=Value) Tryz.prog 9) mb i D:=by
  obtain ⟨es,cl,q1,q2⟩:=g1
  exact ⟨es,cl,by rw [hX.block mb k1.ml (by simp)];exact q1,q2⟩
 obtain ⟨u,ps,hrun,hR⟩:=hX1.lookup (Go.Maps.string_keyed Tryz.underlying9) Tryz.underlying49 (Tryz.zeroValue9 _) (zd:=.lit (.string [])) (zp:=[]) (plainElem_string Tryz.underlying9 (by decide)) (Go.WideMaps.keyOf_string_mk Tryz.underlying9 (s:=Vc.bs id) (by rw [Vc.bs_size,h1.kp.len id hidK];decide))
 rw [Vc.bs_list,b3] at hR
 obtain ⟨s,rfl,hs2,_⟩:=plainElem_string_inv Tryz.underlying9 hR
 have:s.data.toList=raw2:=(show s.data.toList=raw2∧ps=[] by simpa using hs2.symm).1
 rw [hrun,← this,Vc.bs_data]
end
end Go.Proofs.YtogjlepdejonpaaGreatDoor.Lo
namespace Go.Proofs.YtogjlepdejonpaaGreatDoor.Lo
open Vc Go.RowKit Go.Shelf Go.Maps Go.Sort
theorem refhex_c (l:List UInt8) (hl:l.length≤400) (w:World):Calls Tryz.prog 48 #[.string (Vc.bs l)] w fun e w'=>e=.returned (.string (Vc.bs (Cb.Cd.hexL l)))∧Below w.heap.size w w':=by
 have:=Cb.refhex_any (Vc.bs l) w (by rw [Vc.bs_size];exact hl)
 rw [Vc.bs_list] at this
 exact this
set_option maxHeartbeats 800000 in
set_option maxRecDepth 100000 in
theorem file_any (r:ByteArray) (hr:r.size≤1048576) (w:World):Calls Tryz.prog 17 #[.string r] w fun e w'=>e=.returned (.string (fileP (idL r.data.toList)))∧Below w.heap.size w w':=by
 have HI:=hideIt (id_str r w hr)
 have hl:=id_len r.data.toList
 obtain ⟨id,hid⟩:∃ id,idL r.data.toList=id:=⟨_,rfl⟩
 rw [hid] at HI hl ⊢
 have HX:=hideIt (fun w=>refhex_c id (by omega) w)
 have h64:(Cb.Cd.hexL id).length=64:=by rw [Cb.Cd.hexL_len];omega
 have hs:(Vc.bs (Cb.Cd.hexL id)).size=64:=by rw [Vc.bs_size,h64]
 have hsp:Cb.Cd.hexL id=Cb.Cd.hexL (id.take 1) ++ Cb.Cd.hexL (id.drop 1):=by rw [← Cb.Cd.hexL_append,List.take_append_drop]
 have h2:(Cb.Cd.hexL (id.take 1)).length=2:=by rw [Cb.Cd.hexL_len];simp;omega
 have h62:(Cb.Cd.hexL (id.drop 1)).length=62:=by rw [Cb.Cd.hexL_len];simp;omega
 have e1:(Vc.bs (Cb.Cd.hexL id)).extract 0 2=Vc.bs (Cb.Cd.hexL (id.take 1)):=by
  rw [ext_bs,hsp]
  congr 1
  rw [List.extract_eq_take_drop,List.drop_zero]
  exact List.take_left' h2
 have e2:(Vc.bs (Cb.Cd.hexL id)).extract 2 64=Vc.bs (Cb.Cd.hexL (id.drop 1)):=by
  rw [ext_bs,hsp]
  congr 1
  rw [List.extract_eq_take_drop,List.drop_left' h2]
  exact List.take_of_length_le (by omega)
 have HE:Hid (fileP id=⟨#[111,98,106,101,99,116,115,47]⟩ ++ Vc.bs (Cb.Cd.hexL (id.take 1)) ++ ⟨#[47]⟩ ++ Vc.bs (Cb.Cd.hexL (id.drop 1))):=hideIt (by
  show Vc.bs _=Vc.bs [111,98,106,101,99,116,115,47] ++ _ ++ Vc.bs [47] ++ _
  rw [cat_bs,cat_bs,cat_bs]
  simp [fileL,dirL,objL])
 have s1:(Vc.bs (Cb.Cd.hexL (id.take 1))).size=2:=by rw [Vc.bs_size,h2]
 have s2:(Vc.bs (Cb.Cd.hexL (id.drop 1))).size=62:=by rw [Vc.bs_size,h62]
 rw [HE.out]
 clear HE hsp h2 h62 h64 hid
 generalize Vc.bs (Cb.Cd.hexL (id.take 1))=a at e1 s1 ⊢
 generalize Vc.bs (Cb.Cd.hexL (id.drop 1))=c at e2 s2 ⊢
 generalize Vc.bs (Cb.Cd.hexL id)=H at HX hs e1 e2
 have hsI:(H.size:Int)=64:=by omega
 generalize Vc.bs id=I at HI HX
 go_enter Tryz.func17,Tryz.ntmps17
 go_wp2_with (first | (go_at_call 21;refine HI.out.mono ?_;rintro e w1 ⟨rfl,hb1⟩) | (go_at_call 48;refine (HX.out _).mono ?_;rintro e w2 ⟨rfl,hb2⟩))
 go_quiet (fail)
 go_wp2
 go_ret
 exact ⟨rfl,(Ob.below2 hb1 hb2).trans ⟨rfl,rfl,rfl,Nat.le_refl _,fun _ _=>rfl⟩⟩
def cutS (x:ByteArray):ByteArray:=if 300 < x.size then x.extract 0 300 else x
theorem cutS_size (x:ByteArray):(cutS x).size≤300:=by
 unfold cutS
 split
 ·rw [ByteArray.size_extract];omega
 ·omega
def cutV (x:ByteArray):Value:=.string (cutS x)
theorem cuts_snoc (l:List ByteArray) (i:Nat) (x:ByteArray) (h:l[i]? = some x):(l.take (i + 1)).map cutV=(l.take i).map cutV ++ [cutV x]:=by
 obtain ⟨hi,rfl⟩:=List.getElem?_eq_some_iff.1 h
 rw [List.take_succ_eq_append_getElem hi,List.map_append]
 rfl
def ShTo (l:List ByteArray) (w:World) (e:Ending) (w':World):Prop:=(∃ v',e=.returned v'∧w'.ownsRow w.heap.size 9 1 v' (l.take 12).length ((l.take 12).map cutV))∧Below w.heap.size w w'
set_option maxHeartbeats 1600000 in
set_option maxRecDepth 100000 in
theorem shorts_any (l:List ByteArray) (v:Value) (w:World) (h:TRow w v l) :
  Calls Tryz.prog 10 #[v] w fun e w'=>ShTo l w e w':=by
 obtain ⟨i0,hi0,hz0,hz1,hz2⟩:=info_parts infoStr
 obtain ⟨la,lc,rfl,hl1,hl2,hl3⟩:=h
 obtain ⟨n,hnn⟩:∃ n,l.length=n:=⟨_,rfl⟩
 have HN:=hideIt hnn
 rw [hnn] at hl1 hl3 ⊢
 have HL3:=hideIt hl3
 have hlm:(n:Int)≤9223372036854775807:=by have:=hl2.1;unfold maxLen at this;omega
 clear hl3 hnn hl1 hl2
 go_enter Tryz.func10,Tryz.ntmps10
 go_wp2
 go_loopw [3,4] (fun u t wr=>∃ i:Nat,i≤n∧i≤12∧t=.int .i64 i∧wr.ownsRow w.heap.size 9 1 u i ((l.take i).map cutV)∧Below w.heap.size w wr) (fun _ t _=>12 - (intOf t).toNat)
 case atStart=>exact ⟨0,by omega,by omega,rfl,⟨rfl,.inr ⟨w.heap.size,0,#[],rfl,Nat.le_refl _,alloc_at rfl,by simp,by simp,rfl,rfl⟩⟩,(Below.refl _ w).alloc (Nat.le_refl _) _⟩
 case round =>
  obtain ⟨i,hi,hi12,rfl,hrow,hb⟩:=hrel
  have HO:=hideIt hrow
  have HB:=hideIt hb
  have hBs:w.heap.size≤wr.heap.size:=hb.size
  clear hrow hb
  have cases:(i < n∧i < 12)∨(¬ i < n)∨(i < n∧¬ i < 12):=by omega
  rcases cases with ⟨q1,q2⟩ | q1 | ⟨q1,q2⟩
  ·have c1:decide ((i:Int) < (n:Int))=true:=decide_eq_true (by omega)
   have c2:decide ((i:Int) < 12)=true:=decide_eq_true (by omega)
   have i1:(i:Int) < (n:Int):=by omega
   have i2:(i:Int) < 12:=by omega
   obtain ⟨x,hx⟩:∃ x,l[i]? = some x:=⟨_,List.getElem?_eq_getElem (by rw [HN.out];exact q1)⟩
   obtain ⟨lb,lo,rfl,hlb,hlc⟩:=HL3.out (by omega)
   have x0:wr.cell? ⟨lb,lo + i,none⟩=some (.string x):=by
    rw [HB.out.cell (p:=⟨lb,lo + i,none⟩) hlb]
    exact hlc i x hx
   have HX:=hideIt hx
   clear hx hlc
   by_cases hc:300 < x.size
   ·have d1:(300:Int) < (x.size:Int):=by omega
    have d2:(300:Int)≤(x.size:Int):=by omega
    obtain ⟨y,hy⟩:∃ y,x.extract 0 300=y:=⟨_,rfl⟩
    have HY:Hid (cutS x=y):=hideIt (by rw [cutS,if_pos hc,hy])
    clear hc
    go_wp2_with (at_builtin;refine wpList_append_own _ rfl _ _ 22 rfl w.heap.size 9 i0 (.string ⟨#[]⟩) 1 16 Tryz.underlying22 hi0 hz0 hz1 hz2 rfl (by decide) _ _ _ rfl (HO.out.alloc _) ⟨wr.heap.size,0,none⟩ 1 1 [.string y] rfl rfl (cell_one_new _ _ _) (fun x hx=>by simp at hx;subst hx;rfl) (by unfold maxLen;omega) (by omega) (by simp;omega) ?_;intro v3 w3 hown3 hg3 hnil3)
    go_roundw
    case rel =>
     refine ⟨i + 1,by omega,by omega,by go_num,?_,(HB.out.alloc hBs _).grown hg3 (by simp;omega) (fun b hb=>row_ge8 HO.out b hb)⟩
     rw [cuts_snoc l i x HX.out,cutV,HY.out]
     simpa using hown3
    case measure=>simp [intOf];omega
   ·have d1:¬ (300:Int) < (x.size:Int):=by omega
    have HY:Hid (cutS x=x):=hideIt (by rw [cutS,if_neg hc])
    clear hc
    go_wp2_with (at_builtin;refine wpList_append_own _ rfl _ _ 22 rfl w.heap.size 9 i0 (.string ⟨#[]⟩) 1 16 Tryz.underlying22 hi0 hz0 hz1 hz2 rfl (by decide) _ _ _ rfl (HO.out.alloc _) ⟨wr.heap.size,0,none⟩ 1 1 [.string x] rfl rfl (cell_one_new _ _ _) (fun x hx=>by simp at hx;subst hx;rfl) (by unfold maxLen;omega) (by omega) (by simp;omega) ?_;intro v3 w3 hown3 hg3 hnil3)
    go_roundw
    case rel =>
     refine ⟨i + 1,by omega,by omega,by go_num,?_,(HB.out.alloc hBs _).grown hg3 (by simp;omega) (fun b hb=>row_ge8 HO.out b hb)⟩
     rw [cuts_snoc l i x HX.out,cutV,HY.out]
     simpa using hown3
    case measure=>simp [intOf];omega
  ·have c1:decide ((i:Int) < (n:Int))=false:=decide_eq_false (by omega)
   have c2:¬ (i:Int) < (n:Int):=by omega
   have HE:Hid (l.take i=l.take 12∧(l.take 12).length=i):=hideIt ⟨by rw [List.take_of_length_le (by rw [HN.out];omega),List.take_of_length_le (by rw [HN.out];omega)],by rw [List.length_take,HN.out];omega⟩
   go_wp2
   go_ret
   exact ⟨⟨_,rfl,by rw [HE.out.2,← HE.out.1];exact HO.out⟩,HB.out⟩
  ·have c1:decide ((i:Int) < (n:Int))=true:=decide_eq_true (by omega)
   have c2:(i:Int) < (n:Int):=by omega
   have c3:decide ((i:Int) < 12)=false:=decide_eq_false (by omega)
   have c4:¬ (i:Int) < 12:=by omega
   obtain rfl:i=12:=by omega
   have HE:Hid ((l.take 12).length=12):=hideIt (by rw [List.length_take,HN.out];omega)
   go_wp2
   go_ret
   exact ⟨⟨_,rfl,by rw [HE.out];exact HO.out⟩,HB.out⟩
end Go.Proofs.YtogjlepdejonpaaGreatDoor.Lo
namespace Go.Proofs.YtogjlepdejonpaaGreatDoor.Lo
open Vc Go.RowKit Go.Shelf Go.Maps Go.Sort
def txs (l:List ByteArray) (i:Nat):List (List UInt8):=(l.take i).map fun x=>(cutS x).data.toList
theorem txs_next (l:List ByteArray) (i:Nat) (x:ByteArray) (h:l[i]? = some x):∀ t ∈ (cutS x).data.toList :: txs l i,t ∈ txs l (i + 1):=by
 obtain ⟨hi,rfl⟩:=List.getElem?_eq_some_iff.1 h
 intro t ht
 unfold txs at ht ⊢
 rw [List.take_succ_eq_append_getElem hi,List.map_append]
 rcases List.mem_cons.1 ht with rfl | ht
 ·simp
 ·exact List.mem_append_left _ ht
theorem txs_mono (l:List ByteArray) {i j:Nat} (h:i≤j):∀ t ∈ txs l i,t ∈ txs l j:=by
 intro t ht
 unfold txs at ht ⊢
 obtain ⟨x,hx,rfl⟩:=List.mem_map.1 ht
 exact List.mem_map.2 ⟨x,List.take_subset_take_left l h hx,rfl⟩
def NoTw (l:List ByteArray):Prop:=∀ a ∈ txs l 12,∀ b ∈ txs l 12,idL a=idL b→a=b
theorem press_inj {a b:List UInt8} (ha:a.length≤1048576) (hb:b.length≤1048576) (h:prP a=prP b):a=b:=by
 have e:Ld.Lz.press a=Ld.Lz.press b:=by
  have:=congrArg (fun x=>x.data.toList) h
  simpa [prP,Vc.bs_list] using this
 have h1:=Ld.Lz.sp_press a 1048576 ha (by omega)
 rw [e,Ld.Lz.sp_press b 1048576 hb (by omega)] at h1
 simpa using h1.symm
theorem press_ne {a b:List UInt8} (ha:a.length≤1048576) (hb:b.length≤1048576) (h:a≠b):((prP a).toList == (prP b).toList)=false:=by
 rw [ByteArray.toList_eq,ByteArray.toList_eq,beq_eq_false_iff_ne]
 intro e
 refine h (press_inj ha hb ?_)
 rw [← Vc.bs_data (prP a),← Vc.bs_data (prP b),e]
theorem run_makeMap0 (w:World):(Instr.makeMap 49 none).run Tryz.prog w=.ok (.map (some w.heap.size)) (w.alloc (.map #[] 0)):=by
 simp [Instr.makeMap,go_sem]
theorem kept_qn (w:World) (q:Nat):Kept [] w (w.drewN q):=⟨rfl,rfl,rfl,Nat.le_refl _,fun _ _ _=>rfl⟩
theorem row_slice {w:World} {B n:Nat} {v:Value} {xs:List Value} (h:w.ownsRow B 9 1 v n xs):∃ a c,v=.slice a n c:=by
 rcases h.2 with ⟨e,e2⟩ | ⟨g,cap,cur,e,_⟩
 ·subst e2;exact ⟨_,_,e⟩
 ·exact ⟨_,_,e⟩
theorem row_cells {w:World} {B n c:Nat} {a:Option Addr} {L:List (List UInt8)} (h:w.ownsRow B 9 1 (.slice a n c) n (L.map encStr)) (hn:0 < n):∃ g,a=some ⟨g,0,none⟩∧∀ X,Kept [] w X→∀ (j:Nat) (id:List UInt8),L[j]? = some id→X.cell? ⟨g,j,none⟩=some (.string (Vc.bs id)):=by
 have h0:=h
 rcases h.2 with ⟨_,e2⟩ | ⟨g,cap,cur,e,_,hg,_⟩
 ·omega
 ·simp only [Value.slice.injEq] at e
  obtain ⟨rfl,-,rfl⟩:=e
  refine ⟨g,rfl,fun X hX j id hj=>?_⟩
  have hjl:j < n:=by
   have h1:=(List.getElem?_eq_some_iff.1 hj).1
   have h2:=h.1
   simp at h2
   omega
  have:=h0.cellAt j (by omega)
  rw [List.getElem?_map,hj] at this
  have hX2:=hX.fs hg (by simp)
  have e1:X.cell? ⟨g,j,none⟩=w.cell? ⟨g,j,none⟩:=cell_eq (hX2.trans hg.symm) _
  rw [e1,this]
  rfl
def PAns (l:List ByteArray) (W:World) (e:Ending) (w':World):Prop:=(∃ y,e=.returned (.bool y)∧(NoTw l→y=true))∧Below W.heap.size W w'
set_option maxHeartbeats 6400000 in
set_option maxRecDepth 100000 in
theorem plays_in (l:List ByteArray) (lv:Value) (W:World) (hk:Ob.Ok W) (hlr:TRow W lv l) :
  Calls Tryz.prog 8 #[lv] W fun e w'=>PAns l W e w':=by
 obtain ⟨n0,hn0⟩:∃ n0,W.heap.size=n0:=⟨_,rfl⟩
 have hz:0 < n0:=by rw [← hn0];exact hk.max.pos
 have ho:Okn n0 W:=⟨W,hk,by omega,Below.refl _ _⟩
 obtain ⟨la,lc,rfl,hl1,hl2,hl3⟩:=hlr
 have HP0:Hid (Calls Tryz.prog 14 #[] W fun e w'=>e=.returned (.tuple #[.pointer (some ⟨n0,0,none⟩),.bool true])∧Made n0 3 W n0 (baseS 1048576) w'):=hideIt ((place_any ho hz (by omega)).mono fun e w' ⟨he,hm⟩=>by
  rw [hn0] at he hm
  exact ⟨he,hm⟩)
 have HAW:Hid (∀ X,Made n0 3 W n0 (baseS 1048576) X→Calls Tryz.prog 18 #[] X fun e w'=>e=.returned (.bool true)∧Made n0 3 W n0 (baseS 1048576) w'):=hideIt (fun X hX=>by
  have hb:=hX.bel
  exact (awake_any (n0:=n0) (ho.step (by rw [← hn0];exact hb)) hz (by rw [← hn0];exact hb.size)).mono fun e w' ⟨he,hb2⟩=>⟨he,hX.below hb2⟩)
 have HST:Hid (∀ X,Made n0 3 W n0 (baseS 1048576) X→PRun n0 W n0 X.heap.size 0 (txs l 0) (X.alloc (.map #[] 0))):=hideIt (fun X hX=>prun_start hX hX.bel.size)
 have HSM:Hid (∀ X mb i T,PRun n0 W n0 mb i T X→Below W.heap.size W X):=hideIt (fun X mb i T h=>h.bel)
 obtain ⟨M,hM⟩:∃ M:World→Prop,M=Made n0 3 W n0 (baseS 1048576):=⟨_,rfl⟩
 rw [← hM] at HP0 HAW HST
 have HZ:Hid (0 < W.heap.size∧n0≤W.heap.size):=hideIt (by rw [hn0];exact ⟨hz,Nat.le_refl _⟩)
 have HL3:=hideIt hl3
 obtain ⟨len,hlen⟩:∃ len,l.length=len:=⟨_,rfl⟩
 rw [hlen] at hl1 HL3 ⊢
 have HLEN:=hideIt hlen
 have hlm:(len:Int)≤9223372036854775807:=by have:=hl2.1;unfold maxLen at this;omega
 clear hM ho hk hl3 hlen
 have HFALSE:Hid (∀ X,Below W.heap.size W X→¬ NoTw l→PAns l W (.returned (.bool false)) X):=hideIt (fun X hX hn=>⟨⟨false,rfl,fun h=>absurd h hn⟩,hX⟩)
 have HTRUE:Hid (∀ X,Below W.heap.size W X→PAns l W (.returned (.bool true)) X):=hideIt (fun X hX=>⟨⟨true,rfl,fun _=>rfl⟩,hX⟩)
 have hmm:=run_makeMap0
 go_enter Tryz.func8,Tryz.ntmps8
 go_wp2_with (first | (go_at_call 14;refine HP0.out.mono ?_;rintro e w1 ⟨rfl,hr1⟩) | (go_at_call 18;refine (HAW.out _ hr1).mono ?_;rintro e w2 ⟨rfl,hr2⟩))
 have HR2:=hideIt (HST.out w2 hr2)
 obtain ⟨mb,hmb⟩:∃ mb,w2.heap.size=mb:=⟨_,rfl⟩
 obtain ⟨W2,hW2⟩:∃ W2,w2.alloc (.map #[] 0)=W2:=⟨_,rfl⟩
 rw [hmb,hW2] at HR2
 rw [hmb,hW2]
 clear hr1 hr2 hmb hW2 HST HP0 HAW hmm
 go_loopw [6] (fun t wr=>∃ i:Nat,i≤12∧t=.int .i64 i∧PRun n0 W n0 mb i (txs l i) wr) (fun t _=>12 - (intOf t).toNat)
 case atStart=>exact ⟨0,by omega,rfl,HR2.out⟩
 case round =>
  obtain ⟨i,hi,rfl,hr⟩:=hrel
  have HRI:=hideIt hr
  clear HR2 hr
  have cases:(i < len∧i < 12)∨(¬ i < len)∨(i < len∧¬ i < 12):=by omega
  rcases cases with ⟨q1,q2⟩ | hx
  ·have c1:decide ((i:Int) < (len:Int))=true:=decide_eq_true (by omega)
   have c2:decide ((i:Int) < 12)=true:=decide_eq_true (by omega)
   have i1:(i:Int) < (len:Int):=by omega
   have i2:(i:Int) < 12:=by omega
   obtain ⟨x,hs⟩:∃ s,l[i]? = some s:=⟨_,List.getElem?_eq_getElem (by rw [HLEN.out];exact q1)⟩
   obtain ⟨lb,lo,rfl,hlb,hlc⟩:=HL3.out (by omega)
   have x0:wr.cell? ⟨lb,lo + i,none⟩=some (.string x):=by
    rw [(HSM.out wr mb i _ HRI.out).cell (p:=⟨lb,lo + i,none⟩) hlb]
    exact hlc i x hs
   have HTX:=hideIt (txs_next l i x hs)
   have HT12:Hid (∀ t ∈ txs l (i + 1),t ∈ txs l 12):=hideIt (txs_mono l (by omega))
   have hcs:=cutS_size x
   obtain ⟨r,hrr⟩:∃ r,cutS x=r:=⟨_,rfl⟩
   rw [hrr] at HTX hcs
   obtain ⟨rl,hrl⟩:∃ rl,r.data.toList=rl:=⟨_,rfl⟩
   have hbr:Vc.bs rl=r:=by rw [← hrl,Vc.bs_data]
   have hlr:rl.length≤300:=by rw [← hrl,Vc.str_len];exact hcs
   rw [hrl] at HTX
   have HRL:Hid (∀ X,Calls Tryz.prog 32 #[.string r] X fun e w'=>(∃ v,e=.returned (.tuple #[v,.int .i64 (Ob.links rl).2]))∧Below X.heap.size X w'):=hideIt (fun X=>by
    have:=Ob.reflinks_any rl X (by omega)
    rw [show Ob.bs rl=r from hbr] at this
    exact this.mono fun e w' ⟨v,he,_,hb⟩=>⟨⟨v,he⟩,hb⟩)
   have HLK:Hid (∀ X,Ob.Ok X→Calls Tryz.prog 37 #[.string r] X fun e w'=>(∃ v,e=.returned (.tuple #[v,.int .i64 (Ob.links rl).2]))∧Below X.heap.size X w'):=hideIt (fun X hX=>by
    have:=Ob.links_any rl X (by omega) hX
    rw [show Ob.bs rl=r from hbr] at this
    exact this.mono fun e w' ⟨v,he,_,hb⟩=>⟨⟨v,he⟩,hb⟩)
   obtain ⟨z,hz0⟩:∃ z,(Ob.links rl).2=z:=⟨_,rfl⟩
   rw [hz0] at HRL HLK
   have HRB:Hid (∀ X,Below wr.heap.size wr X→PRun n0 W n0 mb i (txs l i) X):=hideIt (fun X hX=>HRI.out.kept (Kept.of_below hX))
   clear hlc hs hz0
   by_cases hz1:z=0
   ·subst hz1
    have HPU:Hid (∀ X,Below wr.heap.size wr X→Calls Tryz.prog 15 #[.pointer (some ⟨n0,0,none⟩),.string r] X fun e w'=>e=.returned (.tuple #[.string (Vc.bs (idL rl)),.int .i64 0])∧PMid n0 W n0 mb i (rl :: txs l i) (idL rl) w'):=hideIt (fun X hX=>by
     have h1:=HRB.out X hX
     have:=h1.put q2 rl hlr (by rw [hbr];exact HLK.out X h1.ok)
     rw [hbr] at this
     exact this)
    have HFI:Hid (∀ X,Calls Tryz.prog 17 #[.string r] X fun e w'=>e=.returned (.string (fileP (idL rl)))∧Below X.heap.size X w'):=hideIt (fun X=>by
     have:=file_any r (by omega) X
     rw [hrl] at this
     exact this)
    have HID:Hid (∀ X,Calls Tryz.prog 21 #[.string r] X fun e w'=>e=.returned (.string (Vc.bs (idL rl)))∧Below X.heap.size X w'):=hideIt (fun X=>by
     have:=id_str r X (by omega)
     rw [hrl] at this
     exact this)
    have hidl:=id_len rl
    have HPA:=hideIt (fun X=>path_any (idL rl) hidl X)
    have HPR:Hid (∀ X,Calls Tryz.prog 31 #[.string r] X fun e w'=>e=.returned (.string (prP rl))∧Below X.heap.size X w'):=hideIt (fun X=>by
     have:=refpress_c rl X (by omega)
     rw [hbr] at this
     exact this)
    have HKEY:Hid (keyOf Tryz.prog 9 (.string (Vc.bs (idL rl)))=some (.string (idL rl))):=hideIt (by
     have:=Go.WideMaps.keyOf_string_mk Tryz.underlying9 (s:=Vc.bs (idL rl)) (by rw [Vc.bs_size,hidl];decide)
     rw [Vc.bs_list] at this
     exact this)
    have HVAL:Hid (plainElem (H:=Value) Tryz.prog 9 (.string r)=some (.lit (.string rl),[])):=hideIt (by
     have:=plainElem_string (H:=Value) Tryz.underlying9 (s:=r) (by unfold maxLen;omega)
     rw [hrl] at this
     exact this)
    have HMI:Hid (∀ X,PMid n0 W n0 mb i (rl :: txs l i) (idL rl) X→∃ D:DataW Value,X.ownsMap Tryz.prog 9 (plainElem (H:=Value) Tryz.prog 9) mb i D∧∀ w1:World,w1.ownsMap Tryz.prog 9 (plainElem (H:=Value) Tryz.prog 9) mb (i + 1) (D.put (.string (idL rl)) (.lit (.string rl)))→X.grownBy w1 (some mb)→PAft n0 W n0 mb (i + 1) (rl :: txs l i) (idL rl) w1):=hideIt (fun X h=>h.map HZ.out.1 HZ.out.2)
    obtain ⟨I,hI⟩:∃ I,Vc.bs (idL rl)=I:=⟨_,rfl⟩
    obtain ⟨F,hF⟩:∃ F,fileP (idL rl)=F:=⟨_,rfl⟩
    rw [hI] at HPU HID HPA HKEY
    rw [hF] at HFI HPA
    have HIF:=hideIt (And.intro hI hF)
    have HLR:=hideIt hlr
    have qI:(I.toList == I.toList)=true:=by simp
    have qF:(F.toList == F.toList)=true:=by simp
    clear hidl hI hF hrl hbr hlr HLK
    by_cases hc:300 < x.size
    ·have d1:(300:Int) < (x.size:Int):=by omega
     have d2:(300:Int)≤(x.size:Int):=by omega
     have hre:x.extract 0 300=r:=by rw [← hrr,cutS,if_pos hc]
     clear hc hrr hcs
     go_wp2_with (first | (go_at_call 32;refine (HRL.out _).mono ?_;rintro e w3 ⟨⟨v3,rfl⟩,hb3⟩) | (go_at_call 15;refine (HPU.out _ hb3).mono ?_;rintro e w4 ⟨rfl,hm4⟩;obtain ⟨D,hD,hst⟩:=HMI.out _ hm4;have HD:=hideIt hD;have HS4:=hideIt hst;clear hm4 hD hst) | (at_mapUpdate;refine wpList_mapUpdate_own _ rfl _ _ _ 49 rfl 9 9 (Go.Maps.string_keyed Tryz.underlying9) Tryz.underlying49 _ mb i D rfl HD.out (by unfold maxLen;omega) _ _ (.string (idL rl)) rfl rfl HKEY.out (.lit (.string rl)) [] HVAL.out ?_;intro w5 ho5 hg5;have HA5:=hideIt (HS4.out w5 ho5 hg5);clear ho5 hg5))
     obtain ⟨r',a1,a2,a3,hrd,hhas⟩:=HA5.out.reads
     rw [HIF.out.1] at hhas
     rw [HIF.out.2] at hrd
     have HRD:=hideIt hrd
     have HHA:=hideIt hhas
     have HA3:=hideIt (And.intro a1 (And.intro a2 a3))
     clear a1 a2 a3 hrd hhas
     by_cases he:r'=rl
     ·rw [he] at HRD
      obtain ⟨P,hP⟩:∃ P,prP rl=P:=⟨_,rfl⟩
      rw [hP] at HRD HPR
      have qP:(P.toList == P.toList)=true:=by simp
      clear hP he
      go_wp2_with (first | (go_at_call 17;refine (HFI.out _).mono ?_;rintro e w6 ⟨rfl,hb6⟩;have HK6:Hid (Kept [] w5 w6):=hideIt (Kept.of_below hb6);clear hb6) | (go_at_call 33;refine (HRD.out _ HK6.out).mono ?_;rintro e w7 ⟨rfl,hk7⟩;have HK7:Hid (Kept [] w5 w7):=hideIt ((HK6.out.trans hk7).sub (by simp));clear hk7))
      go_wp2_with (first | (go_at_call 21;refine (HID.out _).mono ?_;rintro e w8 ⟨rfl,hb8⟩;have HK8:Hid (Kept [] w5 w8):=hideIt ((HK7.out.trans (Kept.of_below hb8)).sub (by simp));clear hb8) | (go_at_call 24;refine (HPA.out _).mono ?_;rintro e w9 ⟨rfl,hb9⟩;have HK9:Hid (Kept [] w5 w9):=hideIt ((HK8.out.trans (Kept.of_below hb9)).sub (by simp));clear hb9) | (go_at_call 17;refine (HFI.out _).mono ?_;rintro e w10 ⟨rfl,hb10⟩;have HK10:Hid (Kept [] w5 w10):=hideIt ((HK9.out.trans (Kept.of_below hb10)).sub (by simp));clear hb10) | (go_at_call 31;refine (HPR.out _).mono ?_;rintro e w11 ⟨rfl,hb11⟩;have HK11:Hid (Kept [] w5 w11):=hideIt ((HK10.out.trans (Kept.of_below hb11)).sub (by simp));clear hb11) | (go_at_call 25;refine (HHA.out _ HK11.out).mono ?_;rintro e w12 ⟨rfl,hk12⟩;have HK12:Hid (Kept [] w5 w12):=hideIt ((HK11.out.trans hk12).sub (by simp));clear hk12))
      go_roundw
      case rel=>exact ⟨i + 1,by omega,by go_num,(HA5.out.run.kept HK12.out).more (Nat.le_refl _) HTX.out⟩
      case measure=>simp [intOf];omega
     ·have qP:=press_ne HA3.out.2.1 (show rl.length≤1048576 by have:=HLR.out;omega) he
      obtain ⟨P,hP⟩:∃ P,prP rl=P:=⟨_,rfl⟩
      obtain ⟨P',hP'⟩:∃ P,prP r'=P:=⟨_,rfl⟩
      rw [hP] at HPR qP
      rw [hP'] at HRD qP
      have HNT:Hid (¬ NoTw l):=hideIt (fun h=>he (h r' (HT12.out _ (HTX.out _ HA3.out.2.2)) rl (HT12.out _ (HTX.out _ (by simp))) HA3.out.1))
      clear hP hP' he
      go_wp2_with (first | (go_at_call 17;refine (HFI.out _).mono ?_;rintro e w6 ⟨rfl,hb6⟩;have HK6:Hid (Kept [] w5 w6):=hideIt (Kept.of_below hb6);clear hb6) | (go_at_call 33;refine (HRD.out _ HK6.out).mono ?_;rintro e w7 ⟨rfl,hk7⟩;have HK7:Hid (Kept [] w5 w7):=hideIt ((HK6.out.trans hk7).sub (by simp));clear hk7))
      go_wp2_with (first | (go_at_call 21;refine (HID.out _).mono ?_;rintro e w8 ⟨rfl,hb8⟩;have HK8:Hid (Kept [] w5 w8):=hideIt ((HK7.out.trans (Kept.of_below hb8)).sub (by simp));clear hb8) | (go_at_call 24;refine (HPA.out _).mono ?_;rintro e w9 ⟨rfl,hb9⟩;have HK9:Hid (Kept [] w5 w9):=hideIt ((HK8.out.trans (Kept.of_below hb9)).sub (by simp));clear hb9) | (go_at_call 17;refine (HFI.out _).mono ?_;rintro e w10 ⟨rfl,hb10⟩;have HK10:Hid (Kept [] w5 w10):=hideIt ((HK9.out.trans (Kept.of_below hb10)).sub (by simp));clear hb10) | (go_at_call 31;refine (HPR.out _).mono ?_;rintro e w11 ⟨rfl,hb11⟩;have HK11:Hid (Kept [] w5 w11):=hideIt ((HK10.out.trans (Kept.of_below hb11)).sub (by simp));clear hb11))
      go_ret
      exact HFALSE.out _ (HA5.out.run.kept HK11.out).bel HNT.out
    ·have d1:¬ (300:Int) < (x.size:Int):=by omega
     obtain rfl:x=r:=by rw [← hrr,cutS,if_neg hc]
     clear hc hrr hcs
     go_wp2_with (first | (go_at_call 32;refine (HRL.out _).mono ?_;rintro e w3 ⟨⟨v3,rfl⟩,hb3⟩) | (go_at_call 15;refine (HPU.out _ hb3).mono ?_;rintro e w4 ⟨rfl,hm4⟩;obtain ⟨D,hD,hst⟩:=HMI.out _ hm4;have HD:=hideIt hD;have HS4:=hideIt hst;clear hm4 hD hst) | (at_mapUpdate;refine wpList_mapUpdate_own _ rfl _ _ _ 49 rfl 9 9 (Go.Maps.string_keyed Tryz.underlying9) Tryz.underlying49 _ mb i D rfl HD.out (by unfold maxLen;omega) _ _ (.string (idL rl)) rfl rfl HKEY.out (.lit (.string rl)) [] HVAL.out ?_;intro w5 ho5 hg5;have HA5:=hideIt (HS4.out w5 ho5 hg5);clear ho5 hg5))
     obtain ⟨r',a1,a2,a3,hrd,hhas⟩:=HA5.out.reads
     rw [HIF.out.1] at hhas
     rw [HIF.out.2] at hrd
     have HRD:=hideIt hrd
     have HHA:=hideIt hhas
     have HA3:=hideIt (And.intro a1 (And.intro a2 a3))
     clear a1 a2 a3 hrd hhas
     by_cases he:r'=rl
     ·rw [he] at HRD
      obtain ⟨P,hP⟩:∃ P,prP rl=P:=⟨_,rfl⟩
      rw [hP] at HRD HPR
      have qP:(P.toList == P.toList)=true:=by simp
      clear hP he
      go_wp2_with (first | (go_at_call 17;refine (HFI.out _).mono ?_;rintro e w6 ⟨rfl,hb6⟩;have HK6:Hid (Kept [] w5 w6):=hideIt (Kept.of_below hb6);clear hb6) | (go_at_call 33;refine (HRD.out _ HK6.out).mono ?_;rintro e w7 ⟨rfl,hk7⟩;have HK7:Hid (Kept [] w5 w7):=hideIt ((HK6.out.trans hk7).sub (by simp));clear hk7))
      go_wp2_with (first | (go_at_call 21;refine (HID.out _).mono ?_;rintro e w8 ⟨rfl,hb8⟩;have HK8:Hid (Kept [] w5 w8):=hideIt ((HK7.out.trans (Kept.of_below hb8)).sub (by simp));clear hb8) | (go_at_call 24;refine (HPA.out _).mono ?_;rintro e w9 ⟨rfl,hb9⟩;have HK9:Hid (Kept [] w5 w9):=hideIt ((HK8.out.trans (Kept.of_below hb9)).sub (by simp));clear hb9) | (go_at_call 17;refine (HFI.out _).mono ?_;rintro e w10 ⟨rfl,hb10⟩;have HK10:Hid (Kept [] w5 w10):=hideIt ((HK9.out.trans (Kept.of_below hb10)).sub (by simp));clear hb10) | (go_at_call 31;refine (HPR.out _).mono ?_;rintro e w11 ⟨rfl,hb11⟩;have HK11:Hid (Kept [] w5 w11):=hideIt ((HK10.out.trans (Kept.of_below hb11)).sub (by simp));clear hb11) | (go_at_call 25;refine (HHA.out _ HK11.out).mono ?_;rintro e w12 ⟨rfl,hk12⟩;have HK12:Hid (Kept [] w5 w12):=hideIt ((HK11.out.trans hk12).sub (by simp));clear hk12))
      go_roundw
      case rel=>exact ⟨i + 1,by omega,by go_num,(HA5.out.run.kept HK12.out).more (Nat.le_refl _) HTX.out⟩
      case measure=>simp [intOf];omega
     ·have qP:=press_ne HA3.out.2.1 (show rl.length≤1048576 by have:=HLR.out;omega) he
      obtain ⟨P,hP⟩:∃ P,prP rl=P:=⟨_,rfl⟩
      obtain ⟨P',hP'⟩:∃ P,prP r'=P:=⟨_,rfl⟩
      rw [hP] at HPR qP
      rw [hP'] at HRD qP
      have HNT:Hid (¬ NoTw l):=hideIt (fun h=>he (h r' (HT12.out _ (HTX.out _ HA3.out.2.2)) rl (HT12.out _ (HTX.out _ (by simp))) HA3.out.1))
      clear hP hP' he
      go_wp2_with (first | (go_at_call 17;refine (HFI.out _).mono ?_;rintro e w6 ⟨rfl,hb6⟩;have HK6:Hid (Kept [] w5 w6):=hideIt (Kept.of_below hb6);clear hb6) | (go_at_call 33;refine (HRD.out _ HK6.out).mono ?_;rintro e w7 ⟨rfl,hk7⟩;have HK7:Hid (Kept [] w5 w7):=hideIt ((HK6.out.trans hk7).sub (by simp));clear hk7))
      go_wp2_with (first | (go_at_call 21;refine (HID.out _).mono ?_;rintro e w8 ⟨rfl,hb8⟩;have HK8:Hid (Kept [] w5 w8):=hideIt ((HK7.out.trans (Kept.of_below hb8)).sub (by simp));clear hb8) | (go_at_call 24;refine (HPA.out _).mono ?_;rintro e w9 ⟨rfl,hb9⟩;have HK9:Hid (Kept [] w5 w9):=hideIt ((HK8.out.trans (Kept.of_below hb9)).sub (by simp));clear hb9) | (go_at_call 17;refine (HFI.out _).mono ?_;rintro e w10 ⟨rfl,hb10⟩;have HK10:Hid (Kept [] w5 w10):=hideIt ((HK9.out.trans (Kept.of_below hb10)).sub (by simp));clear hb10) | (go_at_call 31;refine (HPR.out _).mono ?_;rintro e w11 ⟨rfl,hb11⟩;have HK11:Hid (Kept [] w5 w11):=hideIt ((HK10.out.trans (Kept.of_below hb11)).sub (by simp));clear hb11))
      go_ret
      exact HFALSE.out _ (HA5.out.run.kept HK11.out).bel HNT.out
   ·have z2:(z == 0)=false:=beq_eq_false_iff_ne.2 hz1
    have z3:(z == z)=true:=by simp
    have HPU:Hid (∀ X,Below wr.heap.size wr X→Calls Tryz.prog 15 #[.pointer (some ⟨n0,0,none⟩),.string r] X fun e w'=>e=.returned (.tuple #[.string ⟨#[]⟩,.int .i64 z])∧Kept [] X w'):=hideIt (fun X hX=>put_bad r z hz1 X n0 (HLK.out X (HRB.out X hX).ok))
    clear hrl hbr hlr HLK
    by_cases hc:300 < x.size
    ·have d1:(300:Int) < (x.size:Int):=by omega
     have d2:(300:Int)≤(x.size:Int):=by omega
     have hre:x.extract 0 300=r:=by rw [← hrr,cutS,if_pos hc]
     clear hc hrr hcs
     go_wp2_with (first | (go_at_call 32;refine (HRL.out _).mono ?_;rintro e w3 ⟨⟨v3,rfl⟩,hb3⟩) | (go_at_call 15;refine (HPU.out _ hb3).mono ?_;rintro e w4 ⟨rfl,hk4⟩;have HK4:Hid (Kept [] wr w4):=hideIt (((Kept.of_below hb3).trans hk4).sub (by simp));clear hk4))
     go_roundw
     case rel=>exact ⟨i + 1,by omega,by go_num,(HRI.out.kept HK4.out).more (by omega) (fun t ht=>HTX.out t (List.mem_cons_of_mem _ ht))⟩
     case measure=>simp [intOf];omega
    ·have d1:¬ (300:Int) < (x.size:Int):=by omega
     obtain rfl:x=r:=by rw [← hrr,cutS,if_neg hc]
     clear hc hrr hcs
     go_wp2_with (first | (go_at_call 32;refine (HRL.out _).mono ?_;rintro e w3 ⟨⟨v3,rfl⟩,hb3⟩) | (go_at_call 15;refine (HPU.out _ hb3).mono ?_;rintro e w4 ⟨rfl,hk4⟩;have HK4:Hid (Kept [] wr w4):=hideIt (((Kept.of_below hb3).trans hk4).sub (by simp));clear hk4))
     go_roundw
     case rel=>exact ⟨i + 1,by omega,by go_num,(HRI.out.kept HK4.out).more (by omega) (fun t ht=>HTX.out t (List.mem_cons_of_mem _ ht))⟩
     case measure=>simp [intOf];omega
  ·obtain ⟨n,D,hn12,hsz,hLS⟩:=HRI.out.list hi
   have HL:=hideIt hLS
   have HSZ:=hideIt hsz
   have nI:(n:Int)≤12:=by omega
   have nE:((n:Int) == (n:Int))=true:=by simp
   clear hLS hsz HSM HRI HL3 HLEN
   rcases hx with q | ⟨q,q'⟩
   ·have c1:decide ((i:Int) < (len:Int))=false:=decide_eq_false (by omega)
    have c2:¬ (i:Int) < (len:Int):=by omega
    clear q
    go_wp2_with (first | (go_at_call 22;refine HL.out.mono ?_;rintro e w3 ⟨L,v,hLn,rfl,hrow,hmap,hend⟩;obtain ⟨va,vc,rfl⟩:=row_slice hrow;have hln:=fun ty=>hmap.len Tryz.underlying49 ty;rw [HSZ.out] at hln;have HROW:=hideIt hrow;have HEND:=hideIt (And.intro hLn hend);clear hrow hmap hend hLn))
    clear hln
    go_loopw [15] (fun t wr2=>∃ k:Nat,k≤n∧t=.int .i64 k∧Kept [] w3 wr2) (fun t _=>n - (intOf t).toNat)
    case atStart=>exact ⟨0,by omega,rfl,Kept.refl _ _⟩
    case round =>
     obtain ⟨k,hk,rfl,hkp⟩:=hrel
     have HKP:=hideIt hkp
     clear hkp
     by_cases hlt:k < n
     ·have hid:decide ((k:Int) < (n:Int))=true:=decide_eq_true (by omega)
      have k1:(k:Int) < (n:Int):=by omega
      have k0:(0:Int)≤(k:Int):=by omega
      obtain ⟨hLn,hbe,_,_,_,hsr,h32,hall⟩:=HEND.out
      obtain ⟨id,hid2⟩:∃ id,L[k]? = some id:=⟨_,List.getElem?_eq_getElem (by omega)⟩
      have hmem:=List.mem_of_getElem? hid2
      obtain ⟨raw,raw2,b1,b2,b3,b4,hget,hlk⟩:=hall id hmem
      obtain ⟨g,rfl,hcell⟩:=row_cells HROW.out (by omega)
      have y0:∀ X,Kept [] w3 X→X.cell? ⟨g,k,none⟩=some (.string (Vc.bs id)):=fun X hX=>hcell X hX k id hid2
      have x0:=y0 _ HKP.out
      have HY0:=hideIt y0
      have HG:=hideIt (fun X hX=>hget X hX)
      have HLK:=hideIt hlk
      have HBE:=hideIt hbe
      obtain ⟨I,hI⟩:∃ I,Vc.bs id=I:=⟨_,rfl⟩
      rw [hI] at x0 HY0 HG HLK
      by_cases he:raw=raw2
      ·subst he
       obtain ⟨R,hR⟩:∃ R,Vc.bs raw=R:=⟨_,rfl⟩
       rw [hR] at HG HLK
       have qR:(R.toList == R.toList)=true:=by simp
       by_cases hk0:k=0
       ·subst hk0
        clear hall hget hlk y0 hsr h32 hcell hid2 hmem b1 b2 b3 b4 hI hR hbe
        go_wp2_with (first | (go_at_call 19;refine (HG.out _ HKP.out).mono ?_;rintro e w4 ⟨rfl,hk4⟩;have HK4:Hid (Kept [] w3 w4):=hideIt ((HKP.out.trans hk4).sub (by simp));have x4:=HY0.out _ HK4.out;have l4:=HLK.out _ HK4.out;have l5:=fun q=>HLK.out _ ((HK4.out.trans (kept_qn w4 q)).sub (by simp));clear hk4))
        go_quiet (fail)
        go_wp2
        go_roundw
        case rel=>exact ⟨1,by omega,by go_num,(HK4.out.trans (kept_qn _ _)).sub (by simp)⟩
        case measure=>simp [intOf];omega
       ·obtain ⟨j,rfl⟩:∃ j,k=j + 1:=⟨k - 1,by omega⟩
        have hkd:decide ((0:Int) < ((j + 1:Nat):Int))=true:=decide_eq_true (by omega)
        have hkp0:(0:Int) < ((j + 1:Nat):Int):=by omega
        have hkj:((j + 1:Nat):Int) - 1=(j:Int):=by omega
        have j0:(0:Int)≤(j:Int):=by omega
        have j1:(j:Int) < (n:Int):=by omega
        have jw:IntKind.i64.wrap (j:Int)=(j:Int):=by rw [IntKind.wrap_i64];omega
        obtain ⟨jd,hjd⟩:∃ jd,L[j]? = some jd:=⟨_,List.getElem?_eq_getElem (by omega)⟩
        have hless:jd < id:=by
         have e1:=(List.getElem?_eq_some_iff.1 hjd)
         have e2:=(List.getElem?_eq_some_iff.1 hid2)
         obtain ⟨u1,rfl⟩:=e1
         obtain ⟨u2,rfl⟩:=e2
         exact List.pairwise_iff_getElem.1 hsr j (j + 1) u1 u2 (by omega)
        have HYJ:Hid (∀ X,Kept [] w3 X→X.cell? ⟨g,j,none⟩=some (.string (Vc.bs jd))):=hideIt (fun X hX=>hcell X hX j jd hjd)
        have qL:Op.bytesLess (Vc.bs jd).toList I.toList=true:=by rw [← hI,ByteArray.toList_eq,ByteArray.toList_eq,Vc.bs_list,Vc.bs_list,bytesLess_eq];exact decide_eq_true hless
        obtain ⟨J,hJ⟩:∃ J,Vc.bs jd=J:=⟨_,rfl⟩
        rw [hJ] at HYJ qL
        obtain ⟨kk,hkk⟩:∃ kk,j + 1=kk:=⟨_,rfl⟩
        rw [hkk] at hkd hkp0 hkj k1 k0 hid x0 HY0 ⊢
        have HKK:=hideIt (And.intro hkk hlt)
        have kN:0 < kk:=by omega
        have kD:decide (0 < kk)=true:=decide_eq_true kN
        clear hall hget hlk y0 hsr h32 hcell hid2 hmem b1 b2 b3 b4 hI hR hbe hjd hless hJ hk0 hkk hlt hk
        go_wp2_with (first | (go_at_call 19;refine (HG.out _ HKP.out).mono ?_;rintro e w4 ⟨rfl,hk4⟩;have HK4:Hid (Kept [] w3 w4):=hideIt ((HKP.out.trans hk4).sub (by simp));have x4:=HY0.out _ HK4.out;have x5:=HYJ.out _ HK4.out;have l4:=HLK.out _ HK4.out;have l5:=fun q=>HLK.out _ ((HK4.out.trans (kept_qn w4 q)).sub (by simp));clear hk4))
        go_quiet (fail)
        go_wp2
        go_roundw
        case rel=>exact ⟨kk + 1,by have:=HKK.out;omega,by go_num,(HK4.out.trans (kept_qn _ _)).sub (by simp)⟩
        case measure=>have:=HKK.out;simp [intOf];omega
      ·have HNT:Hid (¬ NoTw l):=hideIt (fun h=>he (h raw (txs_mono l hi _ b2) raw2 (txs_mono l hi _ b4) (b1.trans b3.symm)))
       have qR:((Vc.bs raw).toList == (Vc.bs raw2).toList)=false:=by rw [bs_eq];exact decide_eq_false he
       obtain ⟨R,hR⟩:∃ R,Vc.bs raw=R:=⟨_,rfl⟩
       obtain ⟨R2,hR2⟩:∃ R,Vc.bs raw2=R:=⟨_,rfl⟩
       rw [hR] at HG qR
       rw [hR2] at HLK qR
       clear hall hget hlk y0 hsr h32 hcell hid2 hmem b1 b2 b3 b4 hI hR hR2 hbe he
       go_wp2_with (first | (go_at_call 19;refine (HG.out _ HKP.out).mono ?_;rintro e w4 ⟨rfl,hk4⟩;have HK4:Hid (Kept [] w3 w4):=hideIt ((HKP.out.trans hk4).sub (by simp));have x4:=HY0.out _ HK4.out;have l4:=HLK.out _ HK4.out;have l5:=fun q=>HLK.out _ ((HK4.out.trans (kept_qn w4 q)).sub (by simp));clear hk4))
       go_quiet (fail)
       go_wp2
       go_ret
       exact HFALSE.out _ (HBE.out _ ((HK4.out.trans (kept_qn _ _)).sub (by simp))) HNT.out
     ·have hid:decide ((k:Int) < (n:Int))=false:=decide_eq_false (by omega)
      go_wp2
      go_ret
      exact HTRUE.out _ (HEND.out.2.1 _ HKP.out)
   ·have c1:decide ((i:Int) < (len:Int))=true:=decide_eq_true (by omega)
    have c2:(i:Int) < (len:Int):=by omega
    have c3:decide ((i:Int) < 12)=false:=decide_eq_false (by omega)
    have c4:¬ (i:Int) < 12:=by omega
    clear q q'
    go_wp2_with (first | (go_at_call 22;refine HL.out.mono ?_;rintro e w3 ⟨L,v,hLn,rfl,hrow,hmap,hend⟩;obtain ⟨va,vc,rfl⟩:=row_slice hrow;have hln:=fun ty=>hmap.len Tryz.underlying49 ty;rw [HSZ.out] at hln;have HROW:=hideIt hrow;have HEND:=hideIt (And.intro hLn hend);clear hrow hmap hend hLn))
    clear hln
    go_loopw [15] (fun t wr2=>∃ k:Nat,k≤n∧t=.int .i64 k∧Kept [] w3 wr2) (fun t _=>n - (intOf t).toNat)
    case atStart=>exact ⟨0,by omega,rfl,Kept.refl _ _⟩
    case round =>
     obtain ⟨k,hk,rfl,hkp⟩:=hrel
     have HKP:=hideIt hkp
     clear hkp
     by_cases hlt:k < n
     ·have hid:decide ((k:Int) < (n:Int))=true:=decide_eq_true (by omega)
      have k1:(k:Int) < (n:Int):=by omega
      have k0:(0:Int)≤(k:Int):=by omega
      obtain ⟨hLn,hbe,_,_,_,hsr,h32,hall⟩:=HEND.out
      obtain ⟨id,hid2⟩:∃ id,L[k]? = some id:=⟨_,List.getElem?_eq_getElem (by omega)⟩
      have hmem:=List.mem_of_getElem? hid2
      obtain ⟨raw,raw2,b1,b2,b3,b4,hget,hlk⟩:=hall id hmem
      obtain ⟨g,rfl,hcell⟩:=row_cells HROW.out (by omega)
      have y0:∀ X,Kept [] w3 X→X.cell? ⟨g,k,none⟩=some (.string (Vc.bs id)):=fun X hX=>hcell X hX k id hid2
      have x0:=y0 _ HKP.out
      have HY0:=hideIt y0
      have HG:=hideIt (fun X hX=>hget X hX)
      have HLK:=hideIt hlk
      have HBE:=hideIt hbe
      obtain ⟨I,hI⟩:∃ I,Vc.bs id=I:=⟨_,rfl⟩
      rw [hI] at x0 HY0 HG HLK
      by_cases he:raw=raw2
      ·subst he
       obtain ⟨R,hR⟩:∃ R,Vc.bs raw=R:=⟨_,rfl⟩
       rw [hR] at HG HLK
       have qR:(R.toList == R.toList)=true:=by simp
       by_cases hk0:k=0
       ·subst hk0
        clear hall hget hlk y0 hsr h32 hcell hid2 hmem b1 b2 b3 b4 hI hR hbe
        go_wp2_with (first | (go_at_call 19;refine (HG.out _ HKP.out).mono ?_;rintro e w4 ⟨rfl,hk4⟩;have HK4:Hid (Kept [] w3 w4):=hideIt ((HKP.out.trans hk4).sub (by simp));have x4:=HY0.out _ HK4.out;have l4:=HLK.out _ HK4.out;have l5:=fun q=>HLK.out _ ((HK4.out.trans (kept_qn w4 q)).sub (by simp));clear hk4))
        go_quiet (fail)
        go_wp2
        go_roundw
        case rel=>exact ⟨1,by omega,by go_num,(HK4.out.trans (kept_qn _ _)).sub (by simp)⟩
        case measure=>simp [intOf];omega
       ·obtain ⟨j,rfl⟩:∃ j,k=j + 1:=⟨k - 1,by omega⟩
        have hkd:decide ((0:Int) < ((j + 1:Nat):Int))=true:=decide_eq_true (by omega)
        have hkp0:(0:Int) < ((j + 1:Nat):Int):=by omega
        have hkj:((j + 1:Nat):Int) - 1=(j:Int):=by omega
        have j0:(0:Int)≤(j:Int):=by omega
        have j1:(j:Int) < (n:Int):=by omega
        have jw:IntKind.i64.wrap (j:Int)=(j:Int):=by rw [IntKind.wrap_i64];omega
        obtain ⟨jd,hjd⟩:∃ jd,L[j]? = some jd:=⟨_,List.getElem?_eq_getElem (by omega)⟩
        have hless:jd < id:=by
         have e1:=(List.getElem?_eq_some_iff.1 hjd)
         have e2:=(List.getElem?_eq_some_iff.1 hid2)
         obtain ⟨u1,rfl⟩:=e1
         obtain ⟨u2,rfl⟩:=e2
         exact List.pairwise_iff_getElem.1 hsr j (j + 1) u1 u2 (by omega)
        have HYJ:Hid (∀ X,Kept [] w3 X→X.cell? ⟨g,j,none⟩=some (.string (Vc.bs jd))):=hideIt (fun X hX=>hcell X hX j jd hjd)
        have qL:Op.bytesLess (Vc.bs jd).toList I.toList=true:=by rw [← hI,ByteArray.toList_eq,ByteArray.toList_eq,Vc.bs_list,Vc.bs_list,bytesLess_eq];exact decide_eq_true hless
        obtain ⟨J,hJ⟩:∃ J,Vc.bs jd=J:=⟨_,rfl⟩
        rw [hJ] at HYJ qL
        obtain ⟨kk,hkk⟩:∃ kk,j + 1=kk:=⟨_,rfl⟩
        rw [hkk] at hkd hkp0 hkj k1 k0 hid x0 HY0 ⊢
        have HKK:=hideIt (And.intro hkk hlt)
        have kN:0 < kk:=by omega
        have kD:decide (0 < kk)=true:=decide_eq_true kN
        clear hall hget hlk y0 hsr h32 hcell hid2 hmem b1 b2 b3 b4 hI hR hbe hjd hless hJ hk0 hkk hlt hk
        go_wp2_with (first | (go_at_call 19;refine (HG.out _ HKP.out).mono ?_;rintro e w4 ⟨rfl,hk4⟩;have HK4:Hid (Kept [] w3 w4):=hideIt ((HKP.out.trans hk4).sub (by simp));have x4:=HY0.out _ HK4.out;have x5:=HYJ.out _ HK4.out;have l4:=HLK.out _ HK4.out;have l5:=fun q=>HLK.out _ ((HK4.out.trans (kept_qn w4 q)).sub (by simp));clear hk4))
        go_quiet (fail)
        go_wp2
        go_roundw
        case rel=>exact ⟨kk + 1,by have:=HKK.out;omega,by go_num,(HK4.out.trans (kept_qn _ _)).sub (by simp)⟩
        case measure=>have:=HKK.out;simp [intOf];omega
      ·have HNT:Hid (¬ NoTw l):=hideIt (fun h=>he (h raw (txs_mono l hi _ b2) raw2 (txs_mono l hi _ b4) (b1.trans b3.symm)))
       have qR:((Vc.bs raw).toList == (Vc.bs raw2).toList)=false:=by rw [bs_eq];exact decide_eq_false he
       obtain ⟨R,hR⟩:∃ R,Vc.bs raw=R:=⟨_,rfl⟩
       obtain ⟨R2,hR2⟩:∃ R,Vc.bs raw2=R:=⟨_,rfl⟩
       rw [hR] at HG qR
       rw [hR2] at HLK qR
       clear hall hget hlk y0 hsr h32 hcell hid2 hmem b1 b2 b3 b4 hI hR hR2 hbe he
       go_wp2_with (first | (go_at_call 19;refine (HG.out _ HKP.out).mono ?_;rintro e w4 ⟨rfl,hk4⟩;have HK4:Hid (Kept [] w3 w4):=hideIt ((HKP.out.trans hk4).sub (by simp));have x4:=HY0.out _ HK4.out;have l4:=HLK.out _ HK4.out;have l5:=fun q=>HLK.out _ ((HK4.out.trans (kept_qn w4 q)).sub (by simp));clear hk4))
       go_quiet (fail)
       go_wp2
       go_ret
       exact HFALSE.out _ (HBE.out _ ((HK4.out.trans (kept_qn _ _)).sub (by simp))) HNT.out
     ·have hid:decide ((k:Int) < (n:Int))=false:=decide_eq_false (by omega)
      go_wp2
      go_ret
      exact HTRUE.out _ (HEND.out.2.1 _ HKP.out)
end Go.Proofs.YtogjlepdejonpaaGreatDoor.Lo
namespace Go.Proofs.YtogjlepdejonpaaGreatDoor.Lo
open Vc Go.RowKit Go.Shelf Go.Maps Go.Sort
def TT (l:List ByteArray):List ByteArray:=(l.take 12).map cutS ++ [Vc.bs (blobL [120])]
theorem twin_of {l:List ByteArray} (h:¬ NoTw l):TwinIn (TT l):=by
 have h1:∃ a ∈ txs l 12,∃ b ∈ txs l 12,idL a=idL b∧a≠b:=by
  refine Classical.byContradiction fun hn=>h fun a ha b hb he=>Classical.byContradiction fun hab=>hn ⟨a,ha,b,hb,he,hab⟩
 obtain ⟨a,ha,b,hb,he,hab⟩:=h1
 unfold txs at ha hb
 obtain ⟨x,hx,rfl⟩:=List.mem_map.1 ha
 obtain ⟨y,hy,rfl⟩:=List.mem_map.1 hb
 obtain ⟨i,hi⟩:=List.getElem?_of_mem (List.mem_map.2 ⟨x,hx,rfl⟩:cutS x ∈ (l.take 12).map cutS)
 obtain ⟨j,hj⟩:=List.getElem?_of_mem (List.mem_map.2 ⟨y,hy,rfl⟩:cutS y ∈ (l.take 12).map cutS)
 have li:=(List.getElem?_eq_some_iff.1 hi).1
 have lj:=(List.getElem?_eq_some_iff.1 hj).1
 have hi2:(TT l)[i]? = some (cutS x):=by unfold TT;rw [List.getElem?_append_left li];exact hi
 have hj2:(TT l)[j]? = some (cutS y):=by unfold TT;rw [List.getElem?_append_left lj];exact hj
 have hl:(TT l).length=((l.take 12).map cutS).length + 1:=by unfold TT;simp
 rcases Nat.lt_trichotomy i j with h2 | h2 | h2
 ·exact ⟨j,i,cutS y,cutS x,h2,.inl (by omega),hj2,hi2,he,hab⟩
 ·subst h2
  rw [hi] at hj
  simp only [Option.some.injEq] at hj
  rw [hj] at hab
  exact absurd rfl hab
 ·exact ⟨i,j,cutS x,cutS y,h2,.inl (by omega),hi2,hj2,he.symm,fun e=>hab e.symm⟩
theorem trow_of {w:World} {B n:Nat} {v:Value} {L:List ByteArray} (h:w.ownsRow B 9 1 v n (L.map Value.string)) (hn:L.length=n) (_hm:n≤1000):TRow w v L:=by
 have h0:=h
 rcases h.2 with ⟨e,e2⟩ | ⟨g,cap,cur,e,_,hg,r1,r2,_⟩
 ·exact ⟨none,0,by rw [e,hn,e2],by omega,⟨Nat.zero_le _,fun _=>rfl⟩,fun hp=>by omega⟩
 ·subst e
  refine ⟨some ⟨g,0,none⟩,cap,by rw [hn],by omega,⟨r2,fun h=>by cases h⟩,fun _=>⟨g,0,rfl,block_lt hg,fun i x hx=>?_⟩⟩
  have hi:i < n:=by have:=(List.getElem?_eq_some_iff.1 hx).1;omega
  have:=h0.cellAt i (by omega)
  rw [List.getElem?_map,hx] at this
  rw [Nat.zero_add]
  exact this
theorem trow_below {w X:World} {v:Value} {L:List ByteArray} (h:TRow w v L) (hX:Below w.heap.size w X):TRow X v L:=by
 obtain ⟨a,c,e,h1,h2,h3⟩:=h
 refine ⟨a,c,e,h1,h2,fun hp=>?_⟩
 obtain ⟨b,o,e2,hb,hc⟩:=h3 hp
 refine ⟨b,o,e2,Nat.lt_of_lt_of_le hb hX.size,fun i x hx=>?_⟩
 rw [hX.cell (p:=⟨b,o + i,none⟩) hb]
 exact hc i x hx
theorem append_w {P:Program} (w:World) {ops:Array Oper} {rest:List Oper} {o:Oper} {a:Act} {Q:Exit→Act→World→Prop} (hw:Region.wanted o (yielded ops a.tmps)=true) (s x:Operand) (t:TypeId) (ho:o.op=Op.call { callee:=Callee.builtin Builtin.append,args:=#[s,x],argTypes:=#[t,t] })
  (base:Nat) (e:TypeId) (i:TypeInfo) (z:Value) (size bytes:Nat) (ht:P.underlying t=some (.slice e)) (hi:P.info? e=some i) (hz:i.zero=some z) (hsize:i.size=size) (hby:i.bytes=bytes) (hzs:z.cells.size=size) (hsz:0 < size)
  (v:Value) (n:Nat) (xs:List Value) (hs:a.eval s=v) (hown:w.ownsRow base e size v n xs)
  (ad:Addr) (m c:Nat) (news:List Value) (hx:a.eval x=.slice (some ad) m c) (hl:news.length=m * size) (hnews:∀ j u,news[j]? = some u→w.cell? (ad.add j)=some u) (h1:∀ u ∈ news,u.oneCell'=true)
  (h63:n + m≤maxLen) (hbytes:(n + m) * bytes≤140737488355328) (hbase:base≤w.heap.size)
  (h:∀ v' w',w'.ownsRow base e size v' (n + m) (xs ++ news)→w.grownBy w' v.ownBlock→(v'=.slice none 0 0↔v=.slice none 0 0∧m=0)→wpList P ops Q rest (a.put o.dst v') w'):wpList P ops Q (o :: rest) a w :=
 wpList_step fun _ hK=>by
  rw [if_pos hw]
  exact wp_append_own w s x t ho base e i z size bytes ht hi hz hsize hby hzs hsz v n xs hs hown ad m c news hx hl hnews h1 h63 hbytes hbase fun v' w' h2 h3 h4=>hK _ _ (h v' w' h2 h3 h4)
theorem blobx_any (X:World):Calls Tryz.prog 11 #[.string ⟨#[120]⟩] X fun e w'=>e=.returned (.string (Vc.bs (blobL [120])))∧Below X.heap.size X w':=blob_any [120] X
set_option maxHeartbeats 3200000 in
set_option maxRecDepth 100000 in
theorem plays_law (l:List ByteArray) (lv:Value) (W:World) (hk:Ob.Ok W) (hlr:TRow W lv l) :
  Calls Tryz.prog 3 #[lv] W fun e w'=>e=.returned (.bool true)∧Below W.heap.size W w':=by
 obtain ⟨i0,hi0,hz0,hz1,hz2⟩:=info_parts infoStr
 have hp:=plays_in l lv W hk hlr
 by_cases hNT:NoTw l
 ·have HP:Hid (Calls Tryz.prog 8 #[lv] W fun e w'=>e=.returned (.bool true)∧Below W.heap.size W w'):=hideIt (hp.mono fun e w' ⟨⟨y,he,hy⟩,hb⟩=>⟨by rw [he,hy hNT],hb⟩)
  clear hp hlr hk hNT
  go_enter Tryz.func3,Tryz.ntmps3
  go_wp2_with (go_at_call 8;refine HP.out.mono ?_;rintro e w1 ⟨rfl,hb1⟩)
  go_ret
  exact ⟨rfl,hb1⟩
 ·have HP:Hid (Calls Tryz.prog 8 #[lv] W fun e w'=>(∃ y,e=.returned (.bool y))∧Below W.heap.size W w'):=hideIt (hp.mono fun e w' ⟨⟨y,he,_⟩,hb⟩=>⟨⟨y,he⟩,hb⟩)
  have htw:=twin_of hNT
  obtain ⟨n,hn⟩:∃ n,(l.take 12).length=n:=⟨_,rfl⟩
  have hn12:n≤12:=by rw [← hn,List.length_take];omega
  have HSH:Hid (∀ X,Below W.heap.size W X→Calls Tryz.prog 10 #[lv] X fun e w'=>(∃ a c,e=.returned (.slice a n c)∧w'.ownsRow X.heap.size 9 1 (.slice a n c) n ((l.take 12).map cutV))∧Below X.heap.size X w'):=hideIt (fun X hX=>by
   refine (shorts_any l lv X (trow_below hlr hX)).mono fun e w' ⟨⟨v',he,ho⟩,hb⟩=>?_
   rw [hn] at ho
   obtain ⟨a,c,rfl⟩:=row_slice ho
   exact ⟨⟨a,c,he,ho⟩,hb⟩)
  have HTW:Hid (∀ X v B,X.ownsRow B 9 1 v (n + 1) ((l.take 12).map cutV ++ [.string (Vc.bs (blobL [120]))])→Calls Tryz.prog 9 #[v] X fun e w'=>e=.returned (.bool true)∧Below X.heap.size X w'):=hideIt (fun X v B ho=>by
   have hl:(TT l).length=n + 1:=by unfold TT;simp;rw [← hn,List.length_take]
   have e1:(TT l).map Value.string=(l.take 12).map cutV ++ [.string (Vc.bs (blobL [120]))]:=by unfold TT;rw [List.map_append,List.map_map];rfl
   have ht:TRow X v (TT l):=trow_of (B:=B) (n:=n + 1) (by rw [e1];exact ho) hl (by omega)
   refine (twins_any (TT l) v X ht (by omega) fun x hx=>?_).mono fun e w' ⟨⟨y,he,hy⟩,hb⟩=>⟨by rw [he,hy htw],hb⟩
   unfold TT at hx
   rcases List.mem_append.1 hx with hx | hx
   ·obtain ⟨z,_,rfl⟩:=List.mem_map.1 hx
    have:=cutS_size z
    omega
   ·simp at hx
    subst hx
    have:=blob_len [120]
    rw [Vc.bs_size]
    omega)
  have HBX:=hideIt blobx_any
  obtain ⟨xs,hxs⟩:∃ xs,(l.take 12).map cutV=xs:=⟨_,rfl⟩
  rw [hxs] at HSH HTW
  generalize Vc.bs (blobL [120])=bx at HTW HBX
  clear hp hlr hk hNT htw hn hxs
  go_enter Tryz.func3,Tryz.ntmps3
  go_wp2_with (go_at_call 8;refine HP.out.mono ?_;rintro e w1 ⟨⟨y,rfl⟩,hb1⟩)
  ·go_ret
   exact ⟨rfl,hb1⟩
  ·go_wp2_with (first | (go_at_call 10;refine (HSH.out _ hb1).mono ?_;rintro e w2 ⟨⟨sa,sc,rfl,ho2⟩,hb2⟩;have HO2:=hideIt ho2;have HB2:=hideIt hb2;clear ho2 hb2) | (go_at_call 11;refine (HBX.out _).mono ?_;rintro e w3 ⟨rfl,hb3⟩;have HO3:=hideIt ((Kept.of_below hb3).row HO2.out (fun _ _=>by simp));have hs3:w1.heap.size≤w3.heap.size:=Nat.le_trans HB2.out.size hb3.size;have HB3:Hid (Below W.heap.size W w3):=hideIt (hb1.trans ((HB2.out.trans (hb3.mono HB2.out.size)).mono hb1.size));clear hb3) | (at_builtin;refine append_w _ (by first | rfl | (go_simp;done)) _ _ 22 rfl w1.heap.size 9 i0 (.string ⟨#[]⟩) 1 16 Tryz.underlying22 hi0 hz0 hz1 hz2 rfl (by decide) _ _ _ rfl (HO3.out.alloc _) ⟨w3.heap.size,0,none⟩ 1 1 [.string bx] rfl rfl (cell_one_new _ _ _) (fun x hx=>by simp at hx;subst hx;rfl) (by unfold maxLen;omega) (by omega) (by simp;omega) ?_;intro v4 w4 hown4 hg4 hnil4;have HT4:=hideIt (HTW.out w4 v4 _ hown4);have HB4:Hid (Below W.heap.size W w4):=hideIt ((HB3.out.alloc HB3.out.size _).grown hg4 (by have:=HB3.out.size;simp;omega) (fun b hb=>Nat.le_trans hb1.size (row_ge8 HO3.out b hb)));clear hown4 hg4 hnil4) | (go_at_call 9;refine HT4.out.mono ?_;rintro e w5 ⟨rfl,hb5⟩))
   go_ret
   exact ⟨rfl,HB4.out.trans (hb5.mono HB4.out.size)⟩
end Go.Proofs.YtogjlepdejonpaaGreatDoor.Lo
