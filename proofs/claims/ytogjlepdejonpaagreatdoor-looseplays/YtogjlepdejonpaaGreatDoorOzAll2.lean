/- The document's index, walked: where a byte first stands. The document's line, walked. The document's id, walked. The document's Open, walked. The document's lines, tags and commits: plain readings. The document's look at a text, walked. Names and runes as the document's copy has them, walked. The document's commits: authors, commits checked and made, walked. The document's commit of a body, walked. The document's tags: checked and made, walked. The document's tag of a body, walked. The document's copy: which entries may be a tree; the word of a mode; a tree's bytes; where a byte first stands: walked. The document's copy: where a nought first stands, walked. The document's copy: the tree of bytes, walked. The document's Links, walked. -/
import Derived.Test.YtogjlepdejonpaaGreatDoorOzAll
import Derived.BigQuiet
import Derived.OwnWalk
import Derived.Test.YtogjlepdejonpaaGreatDoorCbRefu
import Derived.Test.YtogjlepdejonpaaGreatDoorCbRefud
import Derived.Deep.RegionHeld3
import Derived.Test.YtogjlepdejonpaaGreatDoorCbRefh
import Derived.Lib.ConvBytes
import Derived.Laws.IdiomStrings
namespace Go.Proofs.YtogjlepdejonpaaGreatDoor
namespace Ob
open Go.RowKit Go.Shelf
def ixc (c:UInt8) (L:List UInt8):Int:=match cutc c L with
 | none=>-1
 | some p=>(p.1.length:Nat)
theorem ixc_at (c:UInt8) (L:List UInt8) (i:Nat) (h:∀ j,j < i→L[j]?≠some c) (h0:L[i]? = some c):ixc c L=(i:Nat):=by
 have e:L=L.take i ++ c :: L.drop (i + 1):=by
  obtain ⟨hl,hv⟩:=List.getElem?_eq_some_iff.1 h0
  conv=>lhs;rw [← List.take_append_drop i L,List.drop_eq_getElem_cons hl,hv]
 have hn:c ∉ L.take i:=by
  intro hm
  obtain ⟨j,hj⟩:=List.mem_iff_getElem?.1 hm
  rw [List.getElem?_take] at hj
  split at hj
  ·exact h j (by assumption) hj
  ·cases hj
 unfold ixc
 rw [e,cutc_mk c _ _ hn]
 have hl:=(List.getElem?_eq_some_iff.1 h0).1
 simp
 omega
theorem ixc_none (c:UInt8) (L:List UInt8) (h:∀ j,j < L.length→L[j]?≠some c):ixc c L=-1:=by
 have hn:c ∉ L:=by
  intro hm
  obtain ⟨j,hj⟩:=List.mem_iff_getElem?.1 hm
  exact h j (List.getElem?_eq_some_iff.1 hj).1 hj
 unfold ixc
 rw [(cutc_none c L).2 hn]
theorem at_bytes (s:ByteArray) (i:Nat) (h:i < s.size):s.data.toList[i]? = some s[i]:=by
 have h':i < s.data.size:=h
 rw [Array.getElem?_toList,Array.getElem?_eq_getElem h']
 rfl
set_option maxHeartbeats 800000 in
set_option maxRecDepth 100000 in
theorem refindex_any (c0:UInt8) (L:List UInt8) (hL:L.length≤1000000) (w:World):Calls Tryz.prog 118 #[.string (bs L),.int .u8 (c0.toNat:Int)] w fun e w'=>e=.returned (.int .i64 (ixc c0 L))∧w'=w:=by
 obtain ⟨s,hs⟩:∃ s,bs L=s:=⟨_,rfl⟩
 have hd:s.data.toList=L:=by rw [← hs,bs_list]
 have hsz:s.size=L.length:=by rw [← hs,bs_size]
 obtain ⟨n,hnn⟩:∃ n,s.size=n:=⟨_,rfl⟩
 have HD:=hideIt hd
 have HZ:=hideIt (ixc_at c0 L)
 have HZN:=hideIt (ixc_none c0 L)
 have HLN:Hid (L.length=n):=hideIt (by omega)
 have nI:(n:Int)≤1000000:=by omega
 have sI:(s.size:Int)=(n:Int):=by omega
 have HSN:=hideIt hnn
 rw [hs]
 clear hs hd hsz hnn
 go_enter Tryz.func118,Tryz.ntmps118
 go_wp2
 go_loopw [5] (fun t wr=>∃ i:Nat,i≤n∧t=.int .i64 i∧(∀ j,j < i→L[j]?≠some c0)∧wr=w) (fun t _=>n - (intOf t).toNat)
 case atStart=>exact ⟨0,by omega,rfl,fun j hj=>by omega,rfl⟩
 case round =>
  obtain ⟨i,hi,rfl,hall,hwr⟩:=hrel
  obtain rfl:=hwr.symm
  have HAL:=hideIt hall
  clear hall hwr
  by_cases hlt:i < n
  ·have i1:(i:Int) < (n:Int):=by omega
   have i2:decide ((i:Int) < (n:Int))=true:=decide_eq_true i1
   have i3:i < s.size:=by have:=HSN.out;omega
   have i4:(i:Int) < (s.size:Int):=by omega
   have i5:(0:Int)≤(i:Int):=by omega
   obtain ⟨c,hc⟩:∃ c,s[i]=c:=⟨_,rfl⟩
   have HC:Hid (L[i]? = some c):=hideIt (by rw [← HD.out,at_bytes s i i3,hc])
   by_cases h0:c=c0
   ·subst h0
    have m1:((c.toNat:Int) == (c.toNat:Int))=true:=by simp
    go_wp2
    go_ret
    exact ⟨by rw [HZ.out i HAL.out HC.out];rfl,by first | rfl | trivial⟩
   ·have n0:¬ ((c.toNat:Int)=(c0.toNat:Int)):=by intro h;apply h0;apply UInt8.toNat_inj.1;omega
    have n1:((c.toNat:Int) == (c0.toNat:Int))=false:=by simpa using n0
    go_wp2
    go_roundw
    case rel =>
     refine ⟨i + 1,by omega,by go_num,fun j hj=>?_,by first | rfl | trivial⟩
     rcases (by omega:j < i∨j=i) with h | h
     ·exact HAL.out j h
     ·subst h
      rw [HC.out]
      simpa using h0
    case measure=>simp [intOf];omega
  ·obtain rfl:i=n:=by omega
   have i2:decide ((i:Int) < (i:Int))=false:=decide_eq_false (by omega)
   go_wp2
   go_ret
   exact ⟨by rw [HZN.out (fun j hj=>HAL.out j (by have:=HLN.out;omega))];rfl,by first | rfl | trivial⟩
end Ob
end Go.Proofs.YtogjlepdejonpaaGreatDoor
namespace Go.Proofs.YtogjlepdejonpaaGreatDoor
namespace Ob
open Go.RowKit Go.Shelf
def lnV (wd L:List UInt8):Value:=if tkO wd L=true then .tuple #[.string (bs (tkT wd L)),.string (bs (tkR L)),.bool true] else .tuple #[.string ⟨#[]⟩,.string (bs L),.bool false]
theorem lnV_short (wd L:List UInt8) (h:ixc 10 L < (wd.length:Int) + 1):lnV wd L=.tuple #[.string ⟨#[]⟩,.string (bs L),.bool false]:=by
 unfold lnV
 rw [if_neg]
 unfold tkO fsl
 unfold ixc at h
 cases hc:cutc 10 L with
 | none=>simp
 | some p =>
  obtain ⟨a,r⟩:=p
  rw [hc] at h
  simp only at h ⊢
  intro hh
  simp only [Bool.true_and,hasW] at hh
  have:=List.IsPrefix.length_le (List.isPrefixOf_iff_prefix.1 hh)
  simp at this
  omega
theorem ixc_cut (c:UInt8) (L:List UInt8) (h:0≤ixc c L):∃ a r,cutc c L=some (a,r)∧L=a ++ c :: r∧ixc c L=(a.length:Nat):=by
 unfold ixc at h ⊢
 cases hc:cutc c L with
 | none=>rw [hc] at h;simp at h
 | some p =>
  obtain ⟨a,r⟩:=p
  exact ⟨a,r,rfl,(cutc_some c L a r hc).1,rfl⟩
theorem hasW_take (wd a:List UInt8) (x:List UInt8) (h:wd.length + 1≤a.length):hasW wd a=decide ((a ++ x).take (wd.length + 1)=wd ++ [32]):=by
 rw [List.take_append_of_le_length h]
 unfold hasW
 by_cases hp:wd ++ [32] <+: a
 ·rw [List.isPrefixOf_iff_prefix.2 hp]
  have:=List.prefix_iff_eq_take.1 hp
  simp only [List.length_append,List.length_cons,List.length_nil] at this
  rw [← this]
  simp
 ·have h1:(wd ++ [32]).isPrefixOf a=false:=by
   cases hb:(wd ++ [32]).isPrefixOf a with
   | false=>rfl
   | true=>exact absurd (List.isPrefixOf_iff_prefix.1 hb) hp
  rw [h1]
  symm
  apply decide_eq_false
  intro he
  apply hp
  rw [← he]
  exact List.take_prefix _ _
theorem bs_word (wd:List UInt8):bs wd ++ (⟨#[32]⟩:ByteArray)=bs (wd ++ [32]):=by
 apply ByteArray.ext
 apply Array.toList_inj.1
 simp [bs,ByteArray.data_append]
theorem bsl_eq (a b:List UInt8):((bs a).toList == (bs b).toList)=decide (a=b):=by
 by_cases h:a=b
 ·subst h;simp
 ·rw [decide_eq_false h]
  cases hb:((bs a).toList == (bs b).toList) with
  | false=>rfl
  | true =>
   exfalso
   have h2:=eq_of_beq hb
   rw [ByteArray.toList_eq,ByteArray.toList_eq] at h2
   simp only [bs_list] at h2
   exact h h2
set_option maxHeartbeats 1600000 in
set_option maxRecDepth 100000 in
theorem refline_any (wd L:List UInt8) (hL:L.length≤1000000) (hw:wd.length≤1000) (w:World) :
  Calls Tryz.prog 123 #[.string (bs L),.string (bs wd)] w fun e w'=>e=.returned (lnV wd L)∧Below w.heap.size w w':=by
 have HI:=hideIt (fun w=>refindex_any 10 L hL w)
 have t10:((10:UInt8).toNat:Int)=10:=rfl
 rw [t10] at HI
 have bz:(bs wd).size=wd.length:=bs_size _
 have lz:(bs L).size=L.length:=bs_size _
 by_cases hs:ixc 10 L < (wd.length:Int) + 1
 ·rw [lnV_short wd L hs]
  obtain ⟨n,hn⟩:∃ n,ixc 10 L=n:=⟨_,rfl⟩
  rw [hn] at HI hs
  obtain ⟨S,hS⟩:∃ S,bs L=S:=⟨_,rfl⟩
  obtain ⟨T,hT⟩:∃ T,bs wd=T:=⟨_,rfl⟩
  rw [hS] at HI lz ⊢
  rw [hT] at bz ⊢
  have h1:decide (n < (T.size:Int) + 1)=true:=decide_eq_true (by omega)
  have b1:(T.size:Int)≤1000:=by omega
  clear hn hS hT hs bz lz
  go_enter Tryz.func123,Tryz.ntmps123
  go_wp2_with (go_at_call 118;refine (HI.out _).mono ?_;rintro e w1 ⟨rfl,h⟩;subst h)
  (try simp only [Exit.inBlock,Exit.then])
  refine bodyPost_ret (v:=.tuple #[.string ⟨#[]⟩,.string S,.bool false]) ?_ rfl ⟨rfl,?_⟩
  ·rw [results_tmp3 rfl]
   go_simp
  ·exact Below.refl _ _
 ·obtain ⟨a,r,hc,hLa,hx⟩:=ixc_cut 10 L (by omega)
  have hal:wd.length + 1≤a.length:=by omega
  have hll:L.length=a.length + 1 + r.length:=by rw [hLa];simp;omega
  have ht:=hasW_take wd a (10 :: r) hal
  rw [← hLa] at ht
  have hf:fsl L=(a,r,true):=by unfold fsl;rw [hc]
  have x1:(bs L).extract 0 (wd.length + 1)=bs (L.take (wd.length + 1)):=by rw [bs_extract];simp
  have x2:(bs L).extract (wd.length + 1) a.length=bs (a.drop (wd.length + 1)):=by
   rw [bs_extract,hLa]
   congr 1
   rw [List.drop_append_of_le_length hal,List.take_append_of_le_length (by simp)]
   apply List.take_of_length_le
   simp
  have x3:(bs L).extract (a.length + 1) L.length=bs r:=by
   rw [bs_extract]
   congr 1
   have:L.drop (a.length + 1)=r:=by rw [hLa];simp
   rw [this]
   apply List.take_of_length_le
   omega
  have x4:((bs L).extract 0 (wd.length + 1)).toList == (bs wd ++ (⟨#[32]⟩:ByteArray)).toList↔hasW wd a=true:=by
   rw [x1,bs_word,bsl_eq,ht]
  have hv:lnV wd L=if hasW wd a=true then .tuple #[.string ((bs L).extract (wd.length + 1) a.length),.string ((bs L).extract (a.length + 1) L.length),.bool true] else .tuple #[.string ⟨#[]⟩,.string (bs L),.bool false]:=by
   unfold lnV tkO tkT tkR
   rw [hf]
   simp only [Bool.true_and]
   split
   ·rw [x2,x3]
   ·rfl
  rw [hv]
  rw [hx] at HI
  clear x1 x2 x3 hv ht hf hc hLa hs hx
  obtain ⟨S,hS⟩:∃ S,bs L=S:=⟨_,rfl⟩
  obtain ⟨T,hT⟩:∃ T,bs wd=T:=⟨_,rfl⟩
  rw [hS] at HI lz x4 ⊢
  rw [hT] at bz x4 ⊢
  obtain ⟨n,hn⟩:∃ n,a.length=n:=⟨_,rfl⟩
  obtain ⟨m,hm⟩:∃ m,wd.length=m:=⟨_,rfl⟩
  obtain ⟨q,hq⟩:∃ q,L.length=q:=⟨_,rfl⟩
  rw [hn] at HI hal hll ⊢
  rw [hm] at bz hal hw x4 ⊢
  rw [hq] at lz hll hL ⊢
  clear hS hT hn hm hq
  subst bz lz
  obtain ⟨k,hk⟩:∃ k,T.size + 1=k:=⟨_,rfl⟩
  obtain ⟨z,hz⟩:∃ z,n + 1=z:=⟨_,rfl⟩
  rw [hk] at hal x4
  have kI:(T.size:Int) + 1=(k:Int):=by omega
  have zI:(n:Int) + 1=(z:Int):=by omega
  have h1:decide ((n:Int) < (k:Int))=false:=decide_eq_false (by omega)
  have m1:(T.size:Int)≤1000:=by omega
  have n1:(n:Int)≤(S.size:Int):=by omega
  have q1:(S.size:Int)≤1000000:=by omega
  have nm:(k:Int)≤(n:Int):=by omega
  have a1:(0:Int)≤(k:Int):=by omega
  have a2:(k:Int)≤(S.size:Int):=by omega
  have a3:(0:Int)≤(z:Int):=by omega
  have a4:(z:Int)≤(S.size:Int):=by omega
  have a5:(0:Int)≤(n:Int):=by omega
  rw [hk,hz]
  clear hk hz hll
  clear hL hw
  cases hb:hasW wd a with
  | true =>
   have e1:=x4.2 hb
   rw [if_pos rfl]
   go_enter Tryz.func123,Tryz.ntmps123
   go_wp2_with (go_at_call 118;refine (HI.out _).mono ?_;rintro e w1 ⟨rfl,h⟩;subst h)
   go_quiet (fail)
   go_wp2
   (try simp only [Exit.inBlock,Exit.then])
   refine bodyPost_ret (v:=.tuple #[.string (S.extract k n),.string (S.extract z S.size),.bool true]) ?_ rfl ⟨rfl,?_⟩
   ·rw [results_tmp3 rfl]
    go_simp
   ·exact below_drewN _ _
  | false =>
   have e1:((S.extract 0 k).toList == (T ++ (⟨#[32]⟩:ByteArray)).toList)=false:=by
    cases h:((S.extract 0 k).toList == (T ++ (⟨#[32]⟩:ByteArray)).toList) with
    | false=>rfl
    | true=>rw [x4.1 h] at hb;cases hb
   rw [if_neg (by decide)]
   go_enter Tryz.func123,Tryz.ntmps123
   go_wp2_with (go_at_call 118;refine (HI.out _).mono ?_;rintro e w1 ⟨rfl,h⟩;subst h)
   (try simp only [Exit.inBlock,Exit.then])
   refine bodyPost_ret (v:=.tuple #[.string ⟨#[]⟩,.string S,.bool false]) ?_ rfl ⟨rfl,?_⟩
   ·rw [results_tmp3 rfl]
    go_simp
   ·exact Below.refl _ _
end Ob
end Go.Proofs.YtogjlepdejonpaaGreatDoor
namespace Go.Proofs.YtogjlepdejonpaaGreatDoor
namespace Ob
open Go.RowKit Go.Shelf
set_option maxHeartbeats 1600000 in
set_option maxRecDepth 100000 in
theorem refidl_any (L:List UInt8) (hL:L.length≤1000000) (w:World) :
  Calls Tryz.prog 124 #[.string (bs L)] w fun e w'=>e=.returned (.tuple #[.string (unhB L),.bool (idO L)])∧Below w.heap.size w w':=by
 have HU:=hideIt (fun w=>Cb.refunhex_any (bs L) w (by rw [bs_size];exact hL))
 rw [bs_list,unhV_eq] at HU
 have hd:idO L=(unhO L && decide ((unhB L).size=32)):=rfl
 rw [hd]
 obtain ⟨u,hu⟩:∃ u,unhO L=u:=⟨_,rfl⟩
 obtain ⟨B,hB⟩:∃ B,unhB L=B:=⟨_,rfl⟩
 rw [hu,hB] at HU ⊢
 obtain ⟨S,hS⟩:∃ S,bs L=S:=⟨_,rfl⟩
 rw [hS] at HU ⊢
 clear hd hu hB hS hL
 by_cases h32:B.size=32
 ·have h1:((B.size:Int) == 32)=true:=by simp;omega
  rw [decide_eq_true h32]
  cases u with
  | true =>
   simp only [if_true] at HU
   go_enter Tryz.func124,Tryz.ntmps124
   go_wp2_with (go_at_call 158;refine (HU.out _).mono ?_;rintro e w1 ⟨rfl,hb⟩)
   (try simp only [Exit.inBlock,Exit.then])
   refine bodyPost_ret (v:=.tuple #[.string B,.bool true]) ?_ rfl ⟨rfl,hb⟩
   rw [results_tmp2 rfl]
   go_simp
  | false =>
   simp only [Bool.false_eq_true,if_false] at HU
   go_enter Tryz.func124,Tryz.ntmps124
   go_wp2_with (go_at_call 158;refine (HU.out _).mono ?_;rintro e w1 ⟨rfl,hb⟩)
   (try simp only [Exit.inBlock,Exit.then])
   refine bodyPost_ret (v:=.tuple #[.string B,.bool false]) ?_ rfl ⟨rfl,hb⟩
   rw [results_tmp2 rfl]
   go_simp
 ·have h1:((B.size:Int) == 32)=false:=by simp;omega
  rw [decide_eq_false h32]
  cases u with
  | true =>
   simp only [if_true] at HU
   go_enter Tryz.func124,Tryz.ntmps124
   go_wp2_with (go_at_call 158;refine (HU.out _).mono ?_;rintro e w1 ⟨rfl,hb⟩)
   (try simp only [Exit.inBlock,Exit.then])
   refine bodyPost_ret (v:=.tuple #[.string B,.bool false]) ?_ rfl ⟨rfl,hb⟩
   rw [results_tmp2 rfl]
   go_simp
  | false =>
   simp only [Bool.false_eq_true,if_false] at HU
   go_enter Tryz.func124,Tryz.ntmps124
   go_wp2_with (go_at_call 158;refine (HU.out _).mono ?_;rintro e w1 ⟨rfl,hb⟩)
   (try simp only [Exit.inBlock,Exit.then])
   refine bodyPost_ret (v:=.tuple #[.string B,.bool false]) ?_ rfl ⟨rfl,hb⟩
   rw [results_tmp2 rfl]
   go_simp
end Ob
end Go.Proofs.YtogjlepdejonpaaGreatDoor
namespace Go.Proofs.YtogjlepdejonpaaGreatDoor
namespace Ob
open Go.RowKit Go.Shelf
theorem kn_range (L:List UInt8):0≤kn L∧kn L≤4:=by
 unfold kn
 repeat' split
 all_goals omega
theorem kw_kn (L:List UInt8) (i:Int) (h:1≤i∧i≤4):kw i=L↔kn L=i:=by
 constructor
 ·rintro rfl
  exact kn_kw i h
 ·intro hk
  subst hk
  unfold kn at h ⊢
  split
  ·subst_vars;rfl
  split
  ·subst_vars;rfl
  split
  ·subst_vars;rfl
  split
  ·subst_vars;rfl
  ·simp_all
theorem opn_cut (L h body wd d:List UInt8) (h1:cutc 0 L=some (h,body)) (h2:cutc 32 h=some (wd,d)):opn L=if kn wd=0 then (0,[],70) else opn3 (kn wd) body (Cb.Dd.und d):=by
 unfold opn
 rw [h1]
 simp only
 rw [h2]
theorem opn3_some (kk:Int) (body:List UInt8) (n:Nat):opV (opn3 kk body (some n))=if 262144 < n then .tuple #[.int .i64 0,.string ⟨#[]⟩,.int .i64 3] else if body.length < n then .tuple #[.int .i64 0,.string ⟨#[]⟩,.int .i64 4] else if n < body.length then .tuple #[.int .i64 0,.string ⟨#[]⟩,.int .i64 5] else .tuple #[.int .i64 kk,.string (bs body),.int .i64 0]:=by
 show opV (if 262144 < n then (0,[],3) else if body.length < n then (0,[],4) else if n < body.length then (0,[],5) else (kk,body,0))=_
 split
 ·rfl
 split
 ·rfl
 split <;> rfl
set_option maxHeartbeats 800000 in
set_option maxRecDepth 100000 in
theorem refopen_any (L:List UInt8) (hL:L.length≤1000000) (w:World) :
  Calls Tryz.prog 70 #[.string (bs L)] w fun e w'=>e=.returned (opV (opn L))∧Below w.heap.size w w':=by
 have HI:=hideIt (fun w=>refindex_any 0 L hL w)
 have t0:((0:UInt8).toNat:Int)=0:=rfl
 have t32:((32:UInt8).toNat:Int)=32:=rfl
 have be:bs []=(⟨#[]⟩:ByteArray):=rfl
 rw [t0] at HI
 cases h1:cutc 0 L with
 | none =>
  have e1:ixc 0 L=-1:=by unfold ixc;rw [h1]
  have e2:opn L=(0,[],6):=by unfold opn;rw [h1]
  rw [e1] at HI
  rw [e2]
  unfold opV
  simp only
  rw [be]
  clear t0 t32 e1 e2 h1
  go_enter Tryz.func70,Tryz.ntmps70
  go_wp2_with (go_at_call 118;refine (HI.out _).mono ?_;rintro e w1 ⟨rfl,h⟩;subst w1)
  (try simp only [Exit.inBlock,Exit.then])
  refine bodyPost_ret (v:=.tuple #[.int .i64 0,.string ⟨#[]⟩,.int .i64 6]) ?_ rfl ⟨rfl,Below.refl _ _⟩
  rw [results_tmp3 rfl]
  go_simp
 | some p =>
  obtain ⟨h,body⟩:=p
  have e1:ixc 0 L=(h.length:Nat):=by unfold ixc;rw [h1]
  obtain ⟨hLe,-⟩:=cutc_some 0 L h body h1
  have hll:L.length=h.length + 1 + body.length:=by rw [hLe];simp;omega
  have x1:(bs L).extract 0 h.length=bs h:=by
   rw [bs_extract,hLe]
   simp
  have HI2:=hideIt (fun w=>refindex_any 32 h (by omega) w)
  rw [t32,← x1] at HI2
  rw [e1] at HI
  have sz:(bs L).size=L.length:=bs_size _
  cases h2:cutc 32 h with
  | none =>
   have e2:ixc 32 h=-1:=by unfold ixc;rw [h2]
   have e3:opn L=(0,[],6):=by unfold opn;rw [h1];simp only;rw [h2]
   rw [e2] at HI2
   rw [e3]
   unfold opV
   simp only
   rw [be]
   obtain ⟨S,hS⟩:∃ S,bs L=S:=⟨_,rfl⟩
   obtain ⟨z,hz⟩:∃ z,h.length=z:=⟨_,rfl⟩
   rw [hS] at HI HI2 sz ⊢
   rw [hz] at HI HI2 hll
   have a1:(z:Int)≤(S.size:Int):=by omega
   have a2:(0:Int)≤(z:Int):=by omega
   have a3:decide ((z:Int) < 0)=false:=decide_eq_false (by omega)
   clear t0 t32 e1 e2 e3 h1 h2 hS hz hLe x1
   go_enter Tryz.func70,Tryz.ntmps70
   go_wp2_with (first | (go_at_call_of 118 (Value.int .u8 0);refine (HI.out _).mono ?_;rintro e w1 ⟨rfl,h⟩;subst w1) | (go_at_call_of 118 (Value.int .u8 32);refine (HI2.out _).mono ?_;rintro e w2 ⟨rfl,h⟩;subst w2))
   (try simp only [Exit.inBlock,Exit.then])
   refine bodyPost_ret (v:=.tuple #[.int .i64 0,.string ⟨#[]⟩,.int .i64 6]) ?_ rfl ⟨rfl,?_⟩
   ·rw [results_tmp3 rfl]
    go_simp
   ·exact Below.refl _ _
  | some q =>
   obtain ⟨wd,d⟩:=q
   have e2:ixc 32 h=(wd.length:Nat):=by unfold ixc;rw [h2]
   obtain ⟨hhe,-⟩:=cutc_some 32 h wd d h2
   have hhl:h.length=wd.length + 1 + d.length:=by rw [hhe];simp;omega
   have x2:(bs L).extract 0 wd.length=bs wd:=by
    rw [bs_extract,hLe,hhe]
    simp
   have x3:(bs L).extract (wd.length + 1) h.length=bs d:=by
    rw [bs_extract,hLe]
    congr 1
    rw [List.drop_append_of_le_length (by omega),List.take_append_of_le_length (by simp)]
    have hd:h.drop (wd.length + 1)=d:=by rw [hhe];simp
    rw [hd]
    apply List.take_of_length_le
    omega
   have x4:(bs L).extract (h.length + 1) L.length=bs body:=by
    rw [bs_extract]
    congr 1
    have:L.drop (h.length + 1)=body:=by rw [hLe];simp
    rw [this]
    apply List.take_of_length_le
    omega
   have HU:=hideIt (fun w=>Cb.refundec_any (bs d) w (by rw [bs_size];omega))
   rw [bs_list,← x3] at HU
   rw [e2] at HI2
   have HK:=hideIt (fun (i:Nat) (hi:1≤i∧i≤4) w=>refkind_any (i:Int) (by omega) w)
   have HQ:Hid (∀ i:Nat,1≤i∧i≤4→((bs (kw (i:Int))).toList == ((bs L).extract 0 wd.length).toList)=decide (kn wd=(i:Int))):=hideIt (fun i hi=>by
    rw [x2,bsl_eq]
    exact decide_eq_decide.2 (kw_kn wd i (by omega)))
   rw [opn_cut L h body wd d h1 h2]
   have kr:=kn_range wd
   obtain ⟨kk,hkk⟩:∃ kk,kn wd=kk:=⟨_,rfl⟩
   rw [hkk] at HQ kr ⊢
   obtain ⟨z,hz⟩:∃ z,h.length=z:=⟨_,rfl⟩
   obtain ⟨b,hb⟩:∃ b,wd.length=b:=⟨_,rfl⟩
   rw [hz] at HI HI2 hll hhl x3 x4 HU
   rw [hb] at HI2 hhl x3 HU HQ
   obtain ⟨S,hS⟩:∃ S,bs L=S:=⟨_,rfl⟩
   rw [hS] at HI HI2 sz x3 x4 HU HQ ⊢
   have a1:(z:Int)≤(S.size:Int):=by omega
   have a2:(0:Int)≤(z:Int):=by omega
   have a3:decide ((z:Int) < 0)=false:=decide_eq_false (by omega)
   have a4:(b:Int)≤(S.size:Int):=by omega
   have a5:(0:Int)≤(b:Int):=by omega
   have a6:decide ((b:Int) < 0)=false:=decide_eq_false (by omega)
   obtain ⟨b1,hb1⟩:∃ b1,b + 1=b1:=⟨_,rfl⟩
   obtain ⟨z1,hz1⟩:∃ z1,z + 1=z1:=⟨_,rfl⟩
   have bI:(b:Int) + 1=(b1:Int):=by omega
   have zI:(z:Int) + 1=(z1:Int):=by omega
   have a7:(0:Int)≤(b1:Int):=by omega
   have a8:(b1:Int)≤(z:Int):=by omega
   have a9:(0:Int)≤(z1:Int):=by omega
   have a10:(z1:Int)≤(S.size:Int):=by omega
   rw [hb1] at HU
   rw [← sz,hz1] at x4
   have bsz:(bs body).size=body.length:=bs_size _
   have hbl:body.length≤1000000:=by omega
   have q1:(S.size:Int)≤1000000:=by omega
   clear hb1 hz1 hhl hll sz
   obtain ⟨ov,hov⟩:∃ ov,opV (if kk=0 then (0,[],70) else opn3 kk body (Cb.Dd.und d))=ov:=⟨_,rfl⟩
   rw [hov]
   have HOV:=hideIt hov
   have HX4:=hideIt x4
   clear hov t0 t32 e1 e2 h1 h2 hS hz hb hLe hhe x1 x2 x3 x4 hkk
   go_enter Tryz.func70,Tryz.ntmps70
   go_wp2_with (first | (go_at_call_of 118 (Value.int .u8 0);refine (HI.out _).mono ?_;rintro e w1 ⟨rfl,h⟩;subst w1) | (go_at_call_of 118 (Value.int .u8 32);refine (HI2.out _).mono ?_;rintro e w2 ⟨rfl,h⟩;subst w2))
   go_loopw [7,8] (fun k t wr=>∃ i:Nat,1≤i∧i≤5∧t=.int .i64 i∧k=.int .i64 (if kk < (i:Int) then kk else 0)∧Below w.heap.size w wr) (fun _ t _=>5 - (intOf t).toNat)
   case atStart=>exact ⟨1,by omega,by omega,rfl,by congr 1;split <;> omega,Below.refl _ _⟩
   case round =>
    obtain ⟨i,hi1,hi5,rfl,rfl,hbw⟩:=hrel
    have HB:=hideIt hbw
    clear hbw
    by_cases hlt:i < 5
    ·have i1:decide ((i:Int) < 5)=true:=decide_eq_true (by omega)
     have HKI:=hideIt (HK.out i (by omega))
     have hq:=HQ.out i (by omega)
     obtain ⟨kv,hkv⟩:∃ kv,(if kk < (i:Int) then kk else 0)=kv:=⟨_,rfl⟩
     rw [hkv]
     by_cases hki:kk=(i:Int)
     ·rw [decide_eq_true hki] at hq
      go_wp2_with fail
      go_region_held3 (fun w'=>Below w.heap.size w w') (first | (exact HB.out.drew) | assumption | (exact below2 (by assumption) hb5))
       (first | (go_at_call 75;refine (HKI.out _).mono ?_;rintro e w5 ⟨rfl,hb5⟩))
      go_wp2
      go_roundw
      case rel =>
       refine ⟨i + 1,by omega,by omega,by go_num,?_,by assumption⟩
       congr 1
       rw [if_pos (by omega)];omega
      case measure=>simp [intOf];omega
     ·rw [decide_eq_false hki] at hq
      go_wp2_with fail
      go_region_held3 (fun w'=>Below w.heap.size w w') (first | (exact HB.out.drew) | assumption | (exact below2 (by assumption) hb5))
       (first | (go_at_call 75;refine (HKI.out _).mono ?_;rintro e w5 ⟨rfl,hb5⟩))
      go_wp2
      go_roundw
      case rel =>
       refine ⟨i + 1,by omega,by omega,by go_num,?_,by assumption⟩
       congr 1
       rw [← hkv];split <;> split <;> omega
      case measure=>simp [intOf];omega
    ·obtain rfl:i=5:=by omega
     have i1:decide (((5:Nat):Int) < 5)=false:=by decide
     have k5:(if kk < ((5:Nat):Int) then kk else 0)=kk:=if_pos (by omega)
     rw [k5]
     by_cases hk0:kk=0
     ·subst hk0
      go_wp2
      (try simp only [Exit.inBlock,Exit.then])
      refine bodyPost_ret (v:=.tuple #[.int .i64 0,.string ⟨#[]⟩,.int .i64 70]) ?_ rfl ⟨by rw [← HOV.out];rfl,HB.out⟩
      rw [results_tmp3 rfl]
      go_simp
     ·have k0:(kk == 0)=false:=by simpa using hk0
      cases hu:Cb.Dd.und d with
      | none =>
       rw [hu] at HU
       unfold Cb.udV at HU
       simp only at HU
       go_wp2_with (go_at_call 119;refine (HU.out _).mono ?_;rintro e w6 ⟨rfl,h⟩;subst w6)
       (try simp only [Exit.inBlock,Exit.then])
       refine bodyPost_ret (v:=.tuple #[.int .i64 0,.string ⟨#[]⟩,.int .i64 6]) ?_ rfl ⟨by rw [← HOV.out,if_neg hk0,hu];rfl,HB.out⟩
       rw [results_tmp3 rfl]
       go_simp
      | some n =>
       rw [hu] at HU
       unfold Cb.udV at HU
       simp only at HU
       have hn:=und_lt hu
       obtain ⟨m,hm⟩:∃ m,body.length=m:=⟨_,rfl⟩
       obtain ⟨B,hB⟩:∃ B,bs body=B:=⟨_,rfl⟩
       have hx4:=HX4.out
       rw [hB] at bsz hx4
       rw [hm] at bsz hbl
       have HO:=hideIt (opn3_some kk body n)
       rw [hm,hB] at HO
       by_cases c1:262144 < n
       ·have d1:decide ((n:Int) > 262144)=true:=decide_eq_true (by omega)
        have d1':decide ((262144:Int) < (n:Int))=true:=decide_eq_true (by omega)
        go_wp2_with (go_at_call 119;refine (HU.out _).mono ?_;rintro e w6 ⟨rfl,h⟩;subst w6)
        (try simp only [Exit.inBlock,Exit.then])
        refine bodyPost_ret (v:=.tuple #[.int .i64 0,.string ⟨#[]⟩,.int .i64 3]) ?_ rfl ⟨by rw [← HOV.out,if_neg hk0,hu,HO.out,if_pos c1],HB.out⟩
        rw [results_tmp3 rfl]
        go_simp
       ·have d1:decide ((n:Int) > 262144)=false:=decide_eq_false (by omega)
        have d1':decide ((262144:Int) < (n:Int))=false:=decide_eq_false (by omega)
        have n1:(n:Int)≤262144:=by omega
        have n2:(0:Int)≤(n:Int):=by omega
        have m2:(B.size:Int)=(m:Int):=by omega
        have m3:(m:Int)≤1000000:=by omega
        by_cases c2:m < n
        ·have d2:decide ((m:Int) < (n:Int))=true:=decide_eq_true (by omega)
         go_wp2_with (go_at_call 119;refine (HU.out _).mono ?_;rintro e w6 ⟨rfl,h⟩;subst w6)
         (try simp only [Exit.inBlock,Exit.then])
         refine bodyPost_ret (v:=.tuple #[.int .i64 0,.string ⟨#[]⟩,.int .i64 4]) ?_ rfl ⟨by rw [← HOV.out,if_neg hk0,hu,HO.out,if_neg c1,if_pos c2],?_⟩
         ·rw [results_tmp3 rfl]
          go_simp
         ·first | exact HB.out | exact HB.out.drew | exact below2 HB.out (below_drewN _ _)
        ·have d2:decide ((m:Int) < (n:Int))=false:=decide_eq_false (by omega)
         by_cases c3:n < m
         ·have d3:decide ((n:Int) < (m:Int))=true:=decide_eq_true (by omega)
          go_wp2_with (go_at_call 119;refine (HU.out _).mono ?_;rintro e w6 ⟨rfl,h⟩;subst w6)
          (try simp only [Exit.inBlock,Exit.then])
          refine bodyPost_ret (v:=.tuple #[.int .i64 0,.string ⟨#[]⟩,.int .i64 5]) ?_ rfl ⟨by rw [← HOV.out,if_neg hk0,hu,HO.out,if_neg c1,if_neg c2,if_pos c3],?_⟩
          ·rw [results_tmp3 rfl]
           go_simp
          ·first | exact HB.out | exact HB.out.drew | exact below2 HB.out (below_drewN _ _)
         ·have d3:decide ((n:Int) < (m:Int))=false:=decide_eq_false (by omega)
          go_wp2_with (go_at_call 119;refine (HU.out _).mono ?_;rintro e w6 ⟨rfl,h⟩;subst w6)
          (try simp only [Exit.inBlock,Exit.then])
          refine bodyPost_ret (v:=.tuple #[.int .i64 kk,.string B,.int .i64 0]) ?_ rfl ⟨by rw [← HOV.out,if_neg hk0,hu,HO.out,if_neg c1,if_neg c2,if_neg c3],?_⟩
          ·rw [results_tmp3 rfl]
           go_simp
          ·first | exact HB.out | exact HB.out.drew | exact below2 HB.out (below_drewN _ _)
end Ob
end Go.Proofs.YtogjlepdejonpaaGreatDoor
namespace Go.Proofs.YtogjlepdejonpaaGreatDoor
namespace Ob
open Go.RowKit Go.Shelf
def lnT (wd L:List UInt8):List UInt8:=if tkO wd L=true then tkT wd L else []
def lnR (wd L:List UInt8):List UInt8:=if tkO wd L=true then tkR L else L
theorem lnV_eq (wd L:List UInt8):lnV wd L=.tuple #[.string (bs (lnT wd L)),.string (bs (lnR wd L)),.bool (tkO wd L)]:=by
 unfold lnV lnT lnR
 cases h:tkO wd L with
 | true=>simp
 | false=>simp;rfl
theorem lnT_len (wd L:List UInt8):(lnT wd L).length≤L.length:=by
 unfold lnT
 split
 ·exact tkT_len wd L
 ·simp
theorem lnR_len (wd L:List UInt8):(lnR wd L).length≤L.length:=by
 unfold lnR
 split
 ·exact tkR_len L
 ·exact Nat.le_refl _
theorem idO_eq (L:List UInt8):idO L=decide ((unhB L).size=32):=by
 unfold idO unhO unhB
 cases h:Cb.Cd.unhexL L with
 | none=>rfl
 | some t=>simp
def dTt (L:List UInt8):Tg:=⟨unhB (lnT objectW L),kn (lnT kindW (lnR objectW L)),bs (lnT nameW (lnR kindW (lnR objectW L))),bs ((lnR nameW (lnR kindW (lnR objectW L))).drop 1)⟩
theorem gT_doc (L:List UInt8):gT L=if (tkO objectW L && tkO kindW (lnR objectW L) && tkO nameW (lnR kindW (lnR objectW L)) && txO (lnR nameW (lnR kindW (lnR objectW L))) && !decide ((dTt L).kd=0) && decide ((dTt L).tgt.size=32))=true then (if tagE (dTt L)=0 then (dTt L,0) else (tgZ,tagE (dTt L))) else (tgZ,6):=by
 unfold gT
 cases h1:tkO objectW L with
 | false =>
  have:gTo L=false:=by unfold gTo;rw [h1];simp
  rw [this,if_neg (by simp),if_neg (by simp)]
 | true =>
  have r1:lnR objectW L=tkR L:=by unfold lnR;rw [if_pos h1]
  have t1:lnT objectW L=tkT objectW L:=by unfold lnT;rw [if_pos h1]
  cases h2:tkO kindW (tkR L) with
  | false =>
   have:gTo L=false:=by unfold gTo;rw [h1,h2];simp
   rw [this,r1,h2,if_neg (by simp),if_neg (by simp)]
  | true =>
   have r2:lnR kindW (tkR L)=tkR (tkR L):=by unfold lnR;rw [if_pos h2]
   have t2:lnT kindW (tkR L)=tkT kindW (tkR L):=by unfold lnT;rw [if_pos h2]
   cases h3:tkO nameW (tkR (tkR L)) with
   | false =>
    have:gTo L=false:=by unfold gTo;rw [h1,h2,h3];simp
    rw [this,r1,r2,h2,h3,if_neg (by simp),if_neg (by simp)]
   | true =>
    have r3:lnR nameW (tkR (tkR L))=tkR (tkR (tkR L)):=by unfold lnR;rw [if_pos h3]
    have t3:lnT nameW (tkR (tkR L))=tkT nameW (tkR (tkR L)):=by unfold lnT;rw [if_pos h3]
    cases h4:txO (tkR (tkR (tkR L))) with
    | false =>
     have:gTo L=false:=by unfold gTo;rw [h4];simp
     rw [this,r1,r2,r3,h2,h3,h4,if_neg (by simp),if_neg (by simp)]
    | true =>
     have hx:txT (tkR (tkR (tkR L)))=(tkR (tkR (tkR L))).drop 1:=by unfold txT;rw [if_pos h4]
     have hd:dTt L=gTt L:=by unfold dTt gTt;rw [r1,t1,r2,t2,r3,t3,hx]
     have hg:gTo L=(!decide ((dTt L).kd=0) && decide ((dTt L).tgt.size=32)):=by
      rw [hd]
      unfold gTo knO
      rw [h1,h2,h3,h4,idO_eq]
      simp only [Bool.true_and,Bool.and_true]
      exact Bool.and_comm _ _
     rw [r1,r2,r3,h2,h3,h4,hg,hd]
     simp only [Bool.true_and]
end Ob
end Go.Proofs.YtogjlepdejonpaaGreatDoor
namespace Go.Proofs.YtogjlepdejonpaaGreatDoor
namespace Ob
open Go.RowKit Go.Shelf
set_option maxHeartbeats 400000 in
theorem reftext_any (s:ByteArray) (w:World) (hs:s.size≤1000000):Calls Tryz.prog 160 #[.string s] w fun e w'=>e=.returned (.bool (textB s))∧w=w':=by
 have HW:Hid (Calls Tryz.prog 209 #[.string s] w fun e w'=>e=.returned (.tuple #[.int .i64 (Lb.good s s.size 0:Nat),.int .i64 (Lb.bad s s.size 0:Nat)])∧w=w'):=hideIt ((refwords_any s w hs).mono fun _ _ h=>⟨h.1,h.2.symm⟩)
 have HT:Hid (textB s=(decide (s.size≤4096) && decide (Lb.bad s s.size 0=0))):=rfl
 obtain ⟨g,hg⟩:∃ g,Lb.good s s.size 0=g:=⟨_,rfl⟩
 obtain ⟨b,hb⟩:∃ b,Lb.bad s s.size 0=b:=⟨_,rfl⟩
 rw [hg,hb] at HW
 rw [hb] at HT
 clear hg hb hs
 by_cases h:s.size≤4096
 ·have h1:(s.size:Int)≤4096:=by omega
  rw [decide_eq_true h,Bool.true_and] at HT
  by_cases hz:b=0
  ·rw [decide_eq_true hz] at HT
   have hz1:((b:Int) == 0)=true:=by simp [hz]
   go_enter Tryz.func160,Tryz.ntmps160
   go_wp2_with (first | (go_at_call 209;refine HW.out.mono ?_;rintro e w1 ⟨rfl,rfl⟩))
   go_ret
   exact ⟨by rw [HT.out] <;> simp,rfl⟩
  ·rw [decide_eq_false hz] at HT
   have hz1:((b:Int) == 0)=false:=by simpa using hz
   go_enter Tryz.func160,Tryz.ntmps160
   go_wp2_with (first | (go_at_call 209;refine HW.out.mono ?_;rintro e w1 ⟨rfl,rfl⟩))
   go_ret
   exact ⟨by rw [HT.out] <;> simp,rfl⟩
 ·have h1:¬ (s.size:Int)≤4096:=by omega
  rw [decide_eq_false h,Bool.false_and] at HT
  go_enter Tryz.func160,Tryz.ntmps160
  go_wp2_with (first | (go_at_call 209;refine HW.out.mono ?_;rintro e w1 ⟨rfl,rfl⟩))
  go_ret
  exact ⟨by rw [HT.out] <;> rfl,rfl⟩
end Ob
end Go.Proofs.YtogjlepdejonpaaGreatDoor
namespace Go.Proofs.YtogjlepdejonpaaGreatDoor
open Go.RowKit
theorem cut_all (s : ByteArray) : s.extract 0 s.size = s := by
  have : (s.extract 0 s.size).data.toList = s.data.toList := by
    have h : s.data.size = s.size := rfl
    rw [ByteArray.data_extract, ← h]
    simp
    rw [List.take_of_length_le (by simp)]
  rw [← bs_data (s.extract 0 s.size), this, bs_data]
set_option maxHeartbeats 1600000 in
set_option maxRecDepth 100000 in
theorem refname_any (s : ByteArray) (w : World) (hs : s.size ≤ maxLen) :
    Calls Tryz.prog 157 #[.string s] w fun e w' => e = .returned (.bool (Lb.nameB s)) ∧ w' = w := by
  obtain ⟨e1, e2, e3, e4⟩ := seg_cmp s
  have HN := hideIt (noName_of s rfl rfl rfl rfl)
  have HD : Hid (Lb.nameB s = (!Lb.noName s.data.toList && (Lb.runes s).all (fun d => !Lb.bar d.1))) := rfl
  rw [HN.out] at HD
  clear HN
  obtain ⟨m, hm⟩ : ∃ m : Int, (s.size : Int) = m := ⟨_, rfl⟩
  rw [hm] at HD
  generalize hx1 : (s.data.toList == []) = x1 at *
  generalize hx2 : (s.data.toList == [46]) = x2 at *
  generalize hx3 : (s.data.toList == [46, 46]) = x3 at *
  generalize hx4 : decide ((64 : Int) < m) = x4 at *
  clear hx1 hx2 hx3
  cases x1 <;> cases x4 <;> cases x2 <;> cases x3
  case false.false.false.false =>
    have HD' : Hid (Lb.nameB s = (Lb.runes s).all (fun d => !Lb.bar d.1)) := hideIt (by rw [HD.out]; simp)
    clear HD
    go_enter Tryz.func157, Tryz.ntmps157
    go_wp2
    go_loopw [0, 3, 4] (fun t _ _ wr => ∃ pos f : Nat, wr = w ∧ t = .string (s.extract pos s.size) ∧ pos ≤ s.size ∧ s.size ≤ pos + f ∧ (Lb.runesF s f pos).all (fun d => !Lb.bar d.1) = Lb.nameB s) (fun t _ _ _ => (match t with | .string u => u.size | _ => 0))
    case atStart => exact ⟨0, s.size, rfl, by rw [cut_all], by omega, by omega, by rw [HD'.out]; rfl⟩
    case round =>
      obtain ⟨pos, f, rfl, rfl, hpl, hf, hr⟩ := hrel
      have htz := Lb.size_cut s pos
      have hdc := Lb.decode_cut s pos
      have hcc := Lb.cut_cut s pos
      clear e1 e2 e3 e4 hm
      obtain ⟨t, ht⟩ : ∃ t, s.extract pos s.size = t := ⟨_, rfl⟩
      rw [ht] at htz hdc hcc ⊢
      by_cases hp : pos < s.size
      · obtain ⟨g, hg, he⟩ := all_step hp hf hr
        have hw := Lb.width_pos s pos hp
        have hwd := Lb.decode_width s pos hp
        have HB := hideIt (fun w => first_any t w (by omega) (by omega))
        have hbr := barI_ref (Utf8.decode s pos)
        rw [hdc] at HB
        obtain ⟨d, hd⟩ : ∃ d, Utf8.decode s pos = d := ⟨_, rfl⟩
        rw [hd] at hg he hw hwd HB hbr
        obtain ⟨x, k⟩ := d
        simp only at hg he hw hwd HB hbr
        obtain ⟨v, hv⟩ : ∃ v, Lb.refV (x, k) = v := ⟨_, rfl⟩
        rw [hv] at HB hbr
        have HE := hideIt he
        have HR := hideIt hbr
        have HT := hideIt ht
        have HCC := hideIt (hcc k)
        clear hd he hr hf hdc hcc hv hbr ht
        have i1 : (0 : Int) < (t.size : Int) := by omega
        have i2 : (0 : Int) ≤ (k : Int) := by omega
        have i3 : (k : Int) ≤ (t.size : Int) := by omega
        have HTZ := hideIt htz
        clear htz
        rcases bar_cases v with H | H | H | H | H | H
        all_goals (have HBV := hideIt (barI_of H); obtain ⟨q1, q2, q3, q4, q5⟩ := H; rw [HR.out] at HBV)
        all_goals go_wp2_with (first | (go_at_call 207; refine (HB.out _).mono ?_; rintro e wx ⟨rfl, hwx⟩; obtain rfl := hwx.symm))
        all_goals first
          | (go_ret; exact ⟨by rw [← HE.out, HBV.out]; rfl, rfl⟩)
          | (go_roundw
             case rel => exact ⟨pos + k, g, by first | rfl | trivial, by rw [HCC.out], by omega, hg, by rw [← HE.out, HBV.out]; rfl⟩
             case measure => simp; omega)
      · have z0 : t.size = 0 := by omega
        have i1 : ¬ (0 : Int) < (t.size : Int) := by omega
        have HE := hideIt hr
        clear hr hcc hdc ht
        go_wp2
        go_ret
        exact ⟨by rw [← HE.out, Lb.runes_end s f pos hp]; rfl, rfl⟩
  all_goals
    have HD' : Hid (Lb.nameB s = false) := hideIt (by rw [HD.out]; simp)
    clear HD
    go_enter Tryz.func157, Tryz.ntmps157
    go_wp2
    go_ret
    exact ⟨by rw [HD'.out]; try rfl, rfl⟩
end Go.Proofs.YtogjlepdejonpaaGreatDoor
namespace Go.Proofs.YtogjlepdejonpaaGreatDoor
namespace Ob
open Go.RowKit Go.Shelf
structure AMem (w0:World) (l:List UInt8) (w:World):Prop where
 blk:∃ C:Array Value,w.heap[w0.heap.size]? = some (.cells C 5 (C.size,C.size + 1))∧l.length≤C.size∧∀ j (h:j < l.length),C[j]? = some (.int .u8 ((l[j]).toNat:Int))
 bel:Below w0.heap.size w0 w
theorem AMem.cell {w0 w:World} {l:List UInt8} (h:AMem w0 l w) (j:Nat) (hj:j < l.length):w.cell? ⟨w0.heap.size,j,none⟩=some (.int .u8 ((l[j]).toNat:Int)):=by
 obtain ⟨C,h1,-,h3⟩:=h.blk
 have:=h3 j hj
 simp [World.cell?,h1,this]
theorem AMem.froz {w0 w:World} {l:List UInt8} (h:AMem w0 l w) (j:Nat) (hj:j < l.length):w.frozen? ⟨w0.heap.size,j,none⟩=false:=by
 obtain ⟨C,h1,h2,-⟩:=h.blk
 simp [World.frozen?,h1]
 omega
theorem AMem.set {w0 w:World} {l:List UInt8} (h:AMem w0 l w) (j:Nat) (hj:j < l.length) (v:UInt8):AMem w0 (l.set j v) (w.setCell ⟨w0.heap.size,j,none⟩ (.int .u8 (v.toNat:Int))):=by
 obtain ⟨C,h1,h2,h3⟩:=h.blk
 refine ⟨⟨C.setIfInBounds j (.int .u8 (v.toNat:Int)),?_,by simp;exact h2,fun k hk=>?_⟩,h.bel.setCell (p:=⟨w0.heap.size,j,none⟩) (Nat.le_refl _) _⟩
 ·simp [World.setCell,h1,Array.getElem?_modify]
 ·rw [Array.getElem?_setIfInBounds]
  by_cases e:j=k
  ·subst e
   rw [if_pos rfl,if_pos (by omega)]
   simp
  ·rw [if_neg e,h3 k (by simpa using hk)]
   simp [e]
theorem AMem.start (s:ByteArray) (w:World):AMem w s.data.toList (Lib.bytesWorld w 5 s):=by
 refine ⟨⟨Lib.bytesCells w 5 s,Lib.bytesWorld_at_new w 5 s,?_,fun j hj=>?_⟩,Lib.bytesWorld_below w 5 s⟩
 ·simp [Lib.bytesCells]
 ·have hj2:j < s.data.size:=by simpa using hj
  simp only [Lib.bytesCells,Array.getElem?_append,Array.size_map]
  rw [if_pos hj2,Array.getElem?_map,Array.getElem?_eq_getElem hj2]
  simp
def mid (l:List UInt8) (i:Nat):List UInt8:=rpL 45 (l.take i) ++ l.drop i
theorem mid_len (l:List UInt8) (i:Nat):(mid l i).length=l.length:=by
 simp [mid,rpL]
 omega
theorem mid_at (l:List UInt8) (i:Nat) (h:i < l.length):(mid l i)[i]'(by rw [mid_len];exact h)=l[i]:=by
 have hl:(rpL 45 (l.take i)).length=i:=by simp [rpL];omega
 have:(mid l i)[i]? = some l[i]:=by
  rw [mid,List.getElem?_append_right (by omega),hl,Nat.sub_self,List.getElem?_drop]
  simp [h]
 exact List.getElem_eq_iff (by rw [mid_len];exact h) |>.2 this
theorem mid_next (l:List UInt8) (i:Nat) (h:i < l.length):mid l (i + 1)=(mid l i).set i (if l[i]=47 then 45 else l[i]):=by
 have hl:(rpL 45 (l.take i)).length=i:=by simp [rpL];omega
 unfold mid
 rw [List.set_append_right _ _ (by omega),hl,Nat.sub_self,List.drop_eq_getElem_cons h,List.set_cons_zero,List.take_succ_eq_append_getElem h]
 unfold rpL
 rw [List.map_append]
 simp
theorem mid_same (l:List UInt8) (i:Nat) (h:i < l.length) (hne:l[i]≠47):mid l (i + 1)=mid l i:=by
 rw [mid_next l i h,if_neg hne]
 have:=mid_at l i h
 conv=>lhs;rw [← this]
 exact List.set_getElem_self _
theorem mid_all (l:List UInt8):mid l l.length=rpL 45 l:=by simp [mid]
set_option maxHeartbeats 800000 in
set_option maxRecDepth 100000 in
theorem refauthor_any (s:ByteArray) (w:World) (hs:s.size≤1000000) :
  Calls Tryz.prog 159 #[.string s] w fun e w'=>e=.returned (.bool (autB s))∧Below w.heap.size w w':=by
 have HST:=hideIt (AMem.start s w)
 have hcv:=Lib.run_convert_string_bytes (P:=Tryz.prog) w 9 82 5 s Tryz.underlying9 Tryz.underlying82 Tryz.underlying5
 have HNM:Hid (∀ w,Calls Tryz.prog 157 #[.string (bs (rpL 45 s.data.toList))] w fun e w'=>e=.returned (.bool (autB s))∧w=w'):=hideIt (fun w=>by
  have h:=refname_any (bs (rpL 45 s.data.toList)) w (by rw [rp_size,str_len];unfold maxLen;omega)
  rw [aut_other] at h
  exact h.mono fun _ _ h=>⟨h.1,h.2.symm⟩)
 obtain ⟨l,hl⟩:∃ l,s.data.toList=l:=⟨_,rfl⟩
 have hll:l.length=s.size:=by rw [← hl,str_len]
 rw [hl] at HST HNM
 obtain ⟨n,hn⟩:∃ n,s.size=n:=⟨_,rfl⟩
 obtain ⟨cp,hcp⟩:∃ cp,grownCap w s.size 0 5=cp:=⟨_,rfl⟩
 obtain ⟨W0,hW0⟩:∃ W0,Lib.bytesWorld w 5 s=W0:=⟨_,rfl⟩
 rw [hcp,hW0,hn] at hcv
 rw [hW0] at HST
 rw [hn] at hll
 have HL:=hideIt hll
 clear hcp hW0 hl
 go_enter Tryz.func159,Tryz.ntmps159
 go_wp2
 go_loopw [4] (fun t wr=>∃ i:Nat,i≤n∧t=.int .i64 i∧AMem w (mid l i) wr) (fun t _=>n - (intOf t).toNat)
 case atStart=>exact ⟨0,by omega,rfl,by simpa [mid,rpL] using HST.out⟩
 case round =>
  obtain ⟨i,hi,rfl,hA⟩:=hrel
  have HA:=hideIt hA
  by_cases hlt:i < n
  ·have i1:decide ((i:Int) < (n:Int))=true:=decide_eq_true (by omega)
   have i2:(i:Int) < (n:Int):=by omega
   have hil:i < l.length:=by rw [HL.out];exact hlt
   have c0:=hA.cell i (by rw [mid_len];exact hil)
   rw [mid_at l i hil] at c0
   have f0:=hA.froz i (by rw [mid_len];exact hil)
   obtain ⟨x,hx⟩:∃ x,l[i]=x:=⟨_,rfl⟩
   rw [hx] at c0
   by_cases h47:x=47
   ·subst h47
    have HS:Hid (AMem w (mid l (i + 1)) (wr.setCell ⟨w.heap.size,i,none⟩ (.int .u8 45))):=hideIt (by
     rw [mid_next l i hil,if_pos hx]
     exact HA.out.set i (by rw [mid_len];exact hil) 45)
    have x1:(((47:UInt8).toNat:Int))=47:=rfl
    rw [x1] at c0
    clear hA hx hil hcv
    go_wp2
    go_roundw
    case rel=>exact ⟨i + 1,by omega,by go_num,HS.out⟩
    case measure=>simp [intOf];omega
   ·have HS:=hideIt (mid_same l i hil (by rw [hx];exact h47))
    have x1:((x.toNat:Int) == 47)=false:=by
     have:(x.toNat:Int)≠47:=fun e=>h47 (by
      have e2:x.toNat=47:=by omega
      exact UInt8.toNat_inj.1 e2)
     simpa using this
    clear hA hx hil hcv
    go_wp2
    go_roundw
    case rel=>exact ⟨i + 1,by omega,by go_num,by rw [HS.out];exact HA.out⟩
    case measure=>simp [intOf];omega
  ·have i1:decide ((i:Int) < (n:Int))=false:=decide_eq_false (by omega)
   obtain rfl:i=n:=by omega
   have hmid:mid l i=rpL 45 l:=by rw [← HL.out,mid_all]
   rw [hmid] at hA
   have hrl:(rpL 45 l).length=i:=by rw [rpL,List.length_map,HL.out]
   have hback:(convert 82 9 (.slice (some ⟨w.heap.size,0,none⟩) i cp)).run Tryz.prog wr=.ok (.string (bs (rpL 45 l))) wr:=by
    have h:=run_convert_bytes_back (P:=Tryz.prog) wr 82 9 5 ⟨w.heap.size,0,none⟩ cp (rpL 45 l) Tryz.underlying82 Tryz.underlying5 Tryz.underlying9 (fun j hj=>by rw [Addr.add_lit,Nat.zero_add];exact hA.cell j hj)
    rw [hrl] at h
    exact h
   have HB:=hideIt hA.bel
   clear hA hmid hcv
   go_wp2_with (first | (go_at_call 157;refine (HNM.out _).mono ?_;rintro e w1 ⟨rfl,rfl⟩))
   go_ret
   exact ⟨rfl,HB.out⟩
theorem cbx_drew {w:World} {N:Nat} {T:TypeId} {c:Cm} (h:CBox w N T c) (k:Nat):CBox (w.drewN k) N T c:=⟨h.blk⟩
theorem memB_take (y z:ByteArray) (l:List ByteArray) (k:Nat) (h:l[k]? = some z):memB y (l.take (k + 1))=(memB y (l.take k) || (y.toList == z.toList)):=by
 unfold memB
 rw [List.take_add_one,h,List.any_append]
 simp
set_option maxHeartbeats 6000000 in
set_option maxRecDepth 100000 in
theorem refcheckCommit_any (c:Cm) (w:World) (hrow:SRow w c.pv c.ps) (h2:c.au.size≤1000000) (h3:c.tx.size≤1000000) :
  Calls Tryz.prog 125 #[cmV c] w fun e w'=>e=.returned (.int .i64 (comE c))∧Below w.heap.size w w':=by
 have HNB:=hideIt (CBox.new w 108 c)
 have HAB:=hideIt (new_below w (cmO c 108))
 have HE:Hid (comE c=if 4 < c.ps.length then 3 else if comOk c=true then 0 else 6):=rfl
 have HO:Hid (comOk c=(idB c.tr && parB c.ps && autB c.au && textB c.tx)):=rfl
 have HPB:Hid (parB c.ps=parF c.ps c.ps.length):=rfl
 obtain ⟨tr,pv,ps,au,tm,tx⟩:=c
 simp only at hrow h2 h3 HE HO HPB
 unfold cmV
 obtain ⟨a,cc,rfl,hlc,hcm,hcells⟩:=hrow
 have HCE:=hideIt hcells
 obtain ⟨n,hn⟩:∃ n,ps.length=n:=⟨_,rfl⟩
 have HN:=hideIt hn
 rw [hn] at HE HPB HNB HAB HO hlc ⊢
 have hcm1:=hcm.1
 unfold maxLen at hcm1
 unfold cmO at HNB HAB
 simp only at HNB HAB ⊢
 by_cases hk:4 < n
 ·rw [if_pos hk] at HE
  have k1:(4:Int) < (n:Int):=by omega
  go_enter Tryz.func125,Tryz.ntmps125
  go_wp2_with fail
  go_ret
  exact ⟨by rw [HE.out] <;> rfl,HAB.out⟩
 ·rw [if_neg hk] at HE
  have k1:¬ (4:Int) < (n:Int):=by omega
  have HA:=hideIt (fun w=>refauthor_any au w h2)
  have HT:=hideIt (fun w=>reftext_any tx w h3)
  have HI:Hid (idB tr=decide (tr.size=32)):=rfl
  obtain ⟨u,hu⟩:∃ u,autB au=u:=⟨_,rfl⟩
  obtain ⟨x,hx⟩:∃ x,textB tx=x:=⟨_,rfl⟩
  rw [hu] at HA HO
  rw [hx] at HT HO
  clear hcells hn hcm h2 h3 hu hx
  by_cases hI:tr.size=32
  ·have q1:(tr.size:Int)=32:=by omega
   rw [HI.out,decide_eq_true hI,Bool.true_and] at HO
   cases u with
   | false =>
    go_enter Tryz.func125,Tryz.ntmps125
    go_wp2_with (first | (go_at_call 159;refine (HA.out _).mono ?_;rintro e w2 ⟨rfl,hb2⟩;have HN2:=hideIt (HNB.out.below hb2);have HB2:=hideIt (below2 HAB.out hb2)) | (go_at_call 160;refine (HT.out _).mono ?_;rintro e w3 ⟨rfl,rfl⟩))
    have HX0:=hideIt (HN2.out)
    have HY0:=hideIt (HB2.out)
    go_loopw [3,4] (fun b t wr=>∃ i:Nat,i≤n∧t=.int .i64 i∧b=.bool (false && parF ps i)∧CBox wr w.heap.size 108 ⟨tr,.slice a n cc,ps,au,tm,tx⟩∧Below w.heap.size w wr) (fun _ t _=>n - (intOf t).toNat)
    case atStart=>exact ⟨0,by omega,rfl,by simp [parF],HX0.out,HY0.out⟩
    case round =>
     obtain ⟨i,hi,rfl,rfl,hbx,hbl⟩:=hrel
     have HBX:=hideIt hbx
     have HBL:=hideIt hbl
     have c1:=hbx.c1
     simp only at c1
     by_cases hlt:i < n
     ·have i1:decide ((i:Int) < (n:Int))=true:=decide_eq_true (by omega)
      have i2:(i:Int) < (n:Int):=by omega
      obtain ⟨b0,o,rfl,hcells⟩:=HCE.out (by rw [HN.out];omega)
      have HCV:=hideIt hcells
      obtain ⟨y,hyi⟩:∃ y,ps[i]? = some y:=⟨ps[i]'(by rw [HN.out];exact hlt),by simp⟩
      have c0:=(hcells.below hbl).2 i y hyi
      have HSU:=hideIt (parF_succ ps i y hyi)
      have HYI:=hideIt hyi
      have HID:Hid (idB y=decide (y.size=32)):=rfl
      obtain ⟨g,hg⟩:∃ g,(false && parF ps i)=g:=⟨_,rfl⟩
      have HNX0:Hid (∀ q,q=(g && idB y)→∀ v,v=(q && !memB y (ps.take i))→Value.bool v=.bool (false && parF ps (i + 1))):=hideIt (fun q hq v hv=>by
       rw [hv,hq,HSU.out,← hg]
       simp)
      rw [hg]
      have HSTP:Hid (∃ p:Bool,p=(g && idB y)∧(g=true→((y.size:Int) == 32)=p)):=hideIt ⟨g && idB y,rfl,fun e=>by
       rw [e,Bool.true_and,HID.out]
       by_cases h:y.size=32
       ·have:(y.size:Int)=32:=by omega
        rw [decide_eq_true h];simpa using this
       ·have:¬ (y.size:Int)=32:=by omega
        rw [decide_eq_false h];simpa using this⟩
      obtain ⟨p,hp,hp2⟩:=HSTP.out
      have HP:=hideIt hp
      clear hcells hyi hbx hbl hg hp HSTP
      cases hgv:g with
      | false =>
       have hp0:p=false:=by rw [HP.out,hgv];rfl
       have HNX:Hid (Value.bool false=.bool (false && parF ps (i + 1))):=hideIt (HNX0.out p HP.out false (by rw [hp0];rfl))
       clear hp2 hp0
       go_wp2
       go_loopw [3,5] (fun b k wr'=>∃ j:Nat,j≤i∧k=.int .i64 j∧b=.bool false∧CBox wr' w.heap.size 108 ⟨tr,.slice (some ⟨b0,o,none⟩) n cc,ps,au,tm,tx⟩∧Below w.heap.size w wr') (fun _ k _=>i - (intOf k).toNat)
       case atStart=>exact ⟨0,by omega,rfl,rfl,HBX.out,HBL.out⟩
       case round =>
        rename_i wr'
        obtain ⟨j,hj,rfl,rfl,hcx,hcl⟩:=hrel
        have HCX:=hideIt hcx
        have HCL:=hideIt hcl
        have c11:=hcx.c1
        simp only at c11
        have c01:=(HCV.out.below hcl).2 i y HYI.out
        clear hcx hcl
        by_cases hjl:j < i
        ·have d1:decide ((j:Int) < (i:Int))=true:=decide_eq_true (by omega)
         have d2:(j:Int) < (i:Int):=by omega
         go_wp2
         go_quiet (fail)
         go_wp2
         go_roundw
         case rel=>exact ⟨j + 1,by omega,by go_num,rfl,cbx_drew HCX.out _,below2 HCL.out (below_drewN _ _)⟩
         case measure=>simp [intOf];omega
        ·have d1:decide ((j:Int) < (i:Int))=false:=decide_eq_false (by omega)
         obtain rfl:j=i:=by omega
         go_wp2
         go_roundw
         case rel=>exact ⟨j + 1,by omega,by go_num,HNX.out,HCX.out,HCL.out⟩
         case measure=>simp [intOf];omega
      | true =>
       have hp1:=hp2 hgv
       cases p with
       | false =>
        have HNX:Hid (Value.bool false=.bool (false && parF ps (i + 1))):=hideIt (HNX0.out false HP.out false rfl)
        clear hp2
        go_wp2
        go_loopw [3,5] (fun b k wr'=>∃ j:Nat,j≤i∧k=.int .i64 j∧b=.bool false∧CBox wr' w.heap.size 108 ⟨tr,.slice (some ⟨b0,o,none⟩) n cc,ps,au,tm,tx⟩∧Below w.heap.size w wr') (fun _ k _=>i - (intOf k).toNat)
        case atStart=>exact ⟨0,by omega,rfl,rfl,HBX.out,HBL.out⟩
        case round =>
         rename_i wr'
         obtain ⟨j,hj,rfl,rfl,hcx,hcl⟩:=hrel
         have HCX:=hideIt hcx
         have HCL:=hideIt hcl
         have c11:=hcx.c1
         simp only at c11
         have c01:=(HCV.out.below hcl).2 i y HYI.out
         clear hcx hcl
         by_cases hjl:j < i
         ·have d1:decide ((j:Int) < (i:Int))=true:=decide_eq_true (by omega)
          have d2:(j:Int) < (i:Int):=by omega
          go_wp2
          go_quiet (fail)
          go_wp2
          go_roundw
          case rel=>exact ⟨j + 1,by omega,by go_num,rfl,cbx_drew HCX.out _,below2 HCL.out (below_drewN _ _)⟩
          case measure=>simp [intOf];omega
         ·have d1:decide ((j:Int) < (i:Int))=false:=decide_eq_false (by omega)
          obtain rfl:j=i:=by omega
          go_wp2
          go_roundw
          case rel=>exact ⟨j + 1,by omega,by go_num,HNX.out,HCX.out,HCL.out⟩
          case measure=>simp [intOf];omega
       | true =>
        have HNX:Hid (Value.bool (!memB y (ps.take i))=.bool (false && parF ps (i + 1))):=hideIt (HNX0.out true HP.out _ (by simp))
        clear hp2
        go_wp2
        go_loopw [3,5] (fun b k wr'=>∃ j:Nat,j≤i∧k=.int .i64 j∧b=.bool (!memB y (ps.take j))∧CBox wr' w.heap.size 108 ⟨tr,.slice (some ⟨b0,o,none⟩) n cc,ps,au,tm,tx⟩∧Below w.heap.size w wr') (fun _ k _=>i - (intOf k).toNat)
        case atStart=>exact ⟨0,by omega,rfl,by simp [memB],HBX.out,HBL.out⟩
        case round =>
         rename_i wr'
         obtain ⟨j,hj,rfl,rfl,hcx,hcl⟩:=hrel
         have HCX:=hideIt hcx
         have HCL:=hideIt hcl
         have c11:=hcx.c1
         simp only at c11
         have c01:=(HCV.out.below hcl).2 i y HYI.out
         clear hcx hcl
         by_cases hjl:j < i
         ·have d1:decide ((j:Int) < (i:Int))=true:=decide_eq_true (by omega)
          have d2:(j:Int) < (i:Int):=by omega
          have d3:(j:Int) < (n:Int):=by omega
          obtain ⟨z,hzj⟩:∃ z,ps[j]? = some z:=⟨ps[j]'(by rw [HN.out];omega),by simp⟩
          have cz:=(HCV.out.below HCL.out).2 j z hzj
          have HMT:=hideIt (memB_take y z ps j hzj)
          obtain ⟨m,hm⟩:∃ m,memB y (ps.take j)=m:=⟨_,rfl⟩
          rw [hm] at HMT
          rw [hm]
          clear hzj hm
          cases m with
          | true =>
           simp only [Bool.not_true]
           go_wp2
           go_quiet (fail)
           go_wp2
           go_roundw
           case rel=>exact ⟨j + 1,by omega,by go_num,by rw [HMT.out];rfl,cbx_drew HCX.out _,below2 HCL.out (below_drewN _ _)⟩
           case measure=>simp [intOf];omega
          | false =>
           simp only [Bool.not_false]
           by_cases hzy:z=y
           ·have z1:(z.toList == y.toList)=true:=by rw [bytes_eq,decide_eq_true hzy]
            have z2:(z.toList != y.toList)=false:=by rw [bne,z1];rfl
            have z3:(y.toList == z.toList)=true:=by rw [bytes_eq,decide_eq_true hzy.symm]
            have HMZ:=hideIt z3
            clear z3 hzy
            go_wp2
            go_quiet (fail)
            go_wp2
            go_roundw
            case rel=>exact ⟨j + 1,by omega,by go_num,by rw [HMT.out,HMZ.out];rfl,cbx_drew HCX.out _,below2 HCL.out (below_drewN _ _)⟩
            case measure=>simp [intOf];omega
           ·have z1:(z.toList == y.toList)=false:=by rw [bytes_eq,decide_eq_false hzy]
            have z2:(z.toList != y.toList)=true:=by rw [bne,z1];rfl
            have z3:(y.toList == z.toList)=false:=by rw [bytes_eq,decide_eq_false (fun e=>hzy e.symm)]
            have HMZ:=hideIt z3
            clear z3 hzy
            go_wp2
            go_quiet (fail)
            go_wp2
            go_roundw
            case rel=>exact ⟨j + 1,by omega,by go_num,by rw [HMT.out,HMZ.out];rfl,cbx_drew HCX.out _,below2 HCL.out (below_drewN _ _)⟩
            case measure=>simp [intOf];omega
         ·have d1:decide ((j:Int) < (i:Int))=false:=decide_eq_false (by omega)
          obtain rfl:j=i:=by omega
          go_wp2
          go_roundw
          case rel=>exact ⟨j + 1,by omega,by go_num,HNX.out,HCX.out,HCL.out⟩
          case measure=>simp [intOf];omega
     ·have i1:decide ((i:Int) < (n:Int))=false:=decide_eq_false (by omega)
      obtain rfl:i=n:=by omega
      have HF:Hid (comOk ⟨tr,.slice a i cc,ps,au,tm,tx⟩=(false && parF ps i)):=hideIt (by rw [HO.out];simp)
      obtain ⟨g,hg⟩:∃ g,(false && parF ps i)=g:=⟨_,rfl⟩
      rw [hg] at HF
      rw [hg]
      clear hbx hbl hg
      cases g with
      | false =>
       rw [HF.out,if_neg (by decide)] at HE
       go_wp2
       go_ret
       exact ⟨by rw [HE.out] <;> rfl,HBL.out⟩
      | true =>
       rw [HF.out,if_pos rfl] at HE
       go_wp2
       go_ret
       exact ⟨by rw [HE.out] <;> rfl,HBL.out⟩
   | true =>
    go_enter Tryz.func125,Tryz.ntmps125
    go_wp2_with (first | (go_at_call 159;refine (HA.out _).mono ?_;rintro e w2 ⟨rfl,hb2⟩;have HN2:=hideIt (HNB.out.below hb2);have c4:=HN2.out.c4;have HB2:=hideIt (below2 HAB.out hb2)) | (go_at_call 160;refine (HT.out _).mono ?_;rintro e w3 ⟨rfl,rfl⟩))
    have HX0:=hideIt (HN2.out)
    have HY0:=hideIt (HB2.out)
    go_loopw [3,4] (fun b t wr=>∃ i:Nat,i≤n∧t=.int .i64 i∧b=.bool (x && parF ps i)∧CBox wr w.heap.size 108 ⟨tr,.slice a n cc,ps,au,tm,tx⟩∧Below w.heap.size w wr) (fun _ t _=>n - (intOf t).toNat)
    case atStart=>exact ⟨0,by omega,rfl,by simp [parF],HX0.out,HY0.out⟩
    case round =>
     obtain ⟨i,hi,rfl,rfl,hbx,hbl⟩:=hrel
     have HBX:=hideIt hbx
     have HBL:=hideIt hbl
     have c1:=hbx.c1
     simp only at c1
     by_cases hlt:i < n
     ·have i1:decide ((i:Int) < (n:Int))=true:=decide_eq_true (by omega)
      have i2:(i:Int) < (n:Int):=by omega
      obtain ⟨b0,o,rfl,hcells⟩:=HCE.out (by rw [HN.out];omega)
      have HCV:=hideIt hcells
      obtain ⟨y,hyi⟩:∃ y,ps[i]? = some y:=⟨ps[i]'(by rw [HN.out];exact hlt),by simp⟩
      have c0:=(hcells.below hbl).2 i y hyi
      have HSU:=hideIt (parF_succ ps i y hyi)
      have HYI:=hideIt hyi
      have HID:Hid (idB y=decide (y.size=32)):=rfl
      obtain ⟨g,hg⟩:∃ g,(x && parF ps i)=g:=⟨_,rfl⟩
      have HNX0:Hid (∀ q,q=(g && idB y)→∀ v,v=(q && !memB y (ps.take i))→Value.bool v=.bool (x && parF ps (i + 1))):=hideIt (fun q hq v hv=>by
       rw [hv,hq,HSU.out,← hg]
       simp [Bool.and_assoc])
      rw [hg]
      have HSTP:Hid (∃ p:Bool,p=(g && idB y)∧(g=true→((y.size:Int) == 32)=p)):=hideIt ⟨g && idB y,rfl,fun e=>by
       rw [e,Bool.true_and,HID.out]
       by_cases h:y.size=32
       ·have:(y.size:Int)=32:=by omega
        rw [decide_eq_true h];simpa using this
       ·have:¬ (y.size:Int)=32:=by omega
        rw [decide_eq_false h];simpa using this⟩
      obtain ⟨p,hp,hp2⟩:=HSTP.out
      have HP:=hideIt hp
      clear hcells hyi hbx hbl hg hp HSTP
      cases hgv:g with
      | false =>
       have hp0:p=false:=by rw [HP.out,hgv];rfl
       have HNX:Hid (Value.bool false=.bool (x && parF ps (i + 1))):=hideIt (HNX0.out p HP.out false (by rw [hp0];rfl))
       clear hp2 hp0
       go_wp2
       go_loopw [3,5] (fun b k wr'=>∃ j:Nat,j≤i∧k=.int .i64 j∧b=.bool false∧CBox wr' w.heap.size 108 ⟨tr,.slice (some ⟨b0,o,none⟩) n cc,ps,au,tm,tx⟩∧Below w.heap.size w wr') (fun _ k _=>i - (intOf k).toNat)
       case atStart=>exact ⟨0,by omega,rfl,rfl,HBX.out,HBL.out⟩
       case round =>
        rename_i wr'
        obtain ⟨j,hj,rfl,rfl,hcx,hcl⟩:=hrel
        have HCX:=hideIt hcx
        have HCL:=hideIt hcl
        have c11:=hcx.c1
        simp only at c11
        have c01:=(HCV.out.below hcl).2 i y HYI.out
        clear hcx hcl
        by_cases hjl:j < i
        ·have d1:decide ((j:Int) < (i:Int))=true:=decide_eq_true (by omega)
         have d2:(j:Int) < (i:Int):=by omega
         go_wp2
         go_quiet (fail)
         go_wp2
         go_roundw
         case rel=>exact ⟨j + 1,by omega,by go_num,rfl,cbx_drew HCX.out _,below2 HCL.out (below_drewN _ _)⟩
         case measure=>simp [intOf];omega
        ·have d1:decide ((j:Int) < (i:Int))=false:=decide_eq_false (by omega)
         obtain rfl:j=i:=by omega
         go_wp2
         go_roundw
         case rel=>exact ⟨j + 1,by omega,by go_num,HNX.out,HCX.out,HCL.out⟩
         case measure=>simp [intOf];omega
      | true =>
       have hp1:=hp2 hgv
       cases p with
       | false =>
        have HNX:Hid (Value.bool false=.bool (x && parF ps (i + 1))):=hideIt (HNX0.out false HP.out false rfl)
        clear hp2
        go_wp2
        go_loopw [3,5] (fun b k wr'=>∃ j:Nat,j≤i∧k=.int .i64 j∧b=.bool false∧CBox wr' w.heap.size 108 ⟨tr,.slice (some ⟨b0,o,none⟩) n cc,ps,au,tm,tx⟩∧Below w.heap.size w wr') (fun _ k _=>i - (intOf k).toNat)
        case atStart=>exact ⟨0,by omega,rfl,rfl,HBX.out,HBL.out⟩
        case round =>
         rename_i wr'
         obtain ⟨j,hj,rfl,rfl,hcx,hcl⟩:=hrel
         have HCX:=hideIt hcx
         have HCL:=hideIt hcl
         have c11:=hcx.c1
         simp only at c11
         have c01:=(HCV.out.below hcl).2 i y HYI.out
         clear hcx hcl
         by_cases hjl:j < i
         ·have d1:decide ((j:Int) < (i:Int))=true:=decide_eq_true (by omega)
          have d2:(j:Int) < (i:Int):=by omega
          go_wp2
          go_quiet (fail)
          go_wp2
          go_roundw
          case rel=>exact ⟨j + 1,by omega,by go_num,rfl,cbx_drew HCX.out _,below2 HCL.out (below_drewN _ _)⟩
          case measure=>simp [intOf];omega
         ·have d1:decide ((j:Int) < (i:Int))=false:=decide_eq_false (by omega)
          obtain rfl:j=i:=by omega
          go_wp2
          go_roundw
          case rel=>exact ⟨j + 1,by omega,by go_num,HNX.out,HCX.out,HCL.out⟩
          case measure=>simp [intOf];omega
       | true =>
        have HNX:Hid (Value.bool (!memB y (ps.take i))=.bool (x && parF ps (i + 1))):=hideIt (HNX0.out true HP.out _ (by simp))
        clear hp2
        go_wp2
        go_loopw [3,5] (fun b k wr'=>∃ j:Nat,j≤i∧k=.int .i64 j∧b=.bool (!memB y (ps.take j))∧CBox wr' w.heap.size 108 ⟨tr,.slice (some ⟨b0,o,none⟩) n cc,ps,au,tm,tx⟩∧Below w.heap.size w wr') (fun _ k _=>i - (intOf k).toNat)
        case atStart=>exact ⟨0,by omega,rfl,by simp [memB],HBX.out,HBL.out⟩
        case round =>
         rename_i wr'
         obtain ⟨j,hj,rfl,rfl,hcx,hcl⟩:=hrel
         have HCX:=hideIt hcx
         have HCL:=hideIt hcl
         have c11:=hcx.c1
         simp only at c11
         have c01:=(HCV.out.below hcl).2 i y HYI.out
         clear hcx hcl
         by_cases hjl:j < i
         ·have d1:decide ((j:Int) < (i:Int))=true:=decide_eq_true (by omega)
          have d2:(j:Int) < (i:Int):=by omega
          have d3:(j:Int) < (n:Int):=by omega
          obtain ⟨z,hzj⟩:∃ z,ps[j]? = some z:=⟨ps[j]'(by rw [HN.out];omega),by simp⟩
          have cz:=(HCV.out.below HCL.out).2 j z hzj
          have HMT:=hideIt (memB_take y z ps j hzj)
          obtain ⟨m,hm⟩:∃ m,memB y (ps.take j)=m:=⟨_,rfl⟩
          rw [hm] at HMT
          rw [hm]
          clear hzj hm
          cases m with
          | true =>
           simp only [Bool.not_true]
           go_wp2
           go_quiet (fail)
           go_wp2
           go_roundw
           case rel=>exact ⟨j + 1,by omega,by go_num,by rw [HMT.out];rfl,cbx_drew HCX.out _,below2 HCL.out (below_drewN _ _)⟩
           case measure=>simp [intOf];omega
          | false =>
           simp only [Bool.not_false]
           by_cases hzy:z=y
           ·have z1:(z.toList == y.toList)=true:=by rw [bytes_eq,decide_eq_true hzy]
            have z2:(z.toList != y.toList)=false:=by rw [bne,z1];rfl
            have z3:(y.toList == z.toList)=true:=by rw [bytes_eq,decide_eq_true hzy.symm]
            have HMZ:=hideIt z3
            clear z3 hzy
            go_wp2
            go_quiet (fail)
            go_wp2
            go_roundw
            case rel=>exact ⟨j + 1,by omega,by go_num,by rw [HMT.out,HMZ.out];rfl,cbx_drew HCX.out _,below2 HCL.out (below_drewN _ _)⟩
            case measure=>simp [intOf];omega
           ·have z1:(z.toList == y.toList)=false:=by rw [bytes_eq,decide_eq_false hzy]
            have z2:(z.toList != y.toList)=true:=by rw [bne,z1];rfl
            have z3:(y.toList == z.toList)=false:=by rw [bytes_eq,decide_eq_false (fun e=>hzy e.symm)]
            have HMZ:=hideIt z3
            clear z3 hzy
            go_wp2
            go_quiet (fail)
            go_wp2
            go_roundw
            case rel=>exact ⟨j + 1,by omega,by go_num,by rw [HMT.out,HMZ.out];rfl,cbx_drew HCX.out _,below2 HCL.out (below_drewN _ _)⟩
            case measure=>simp [intOf];omega
         ·have d1:decide ((j:Int) < (i:Int))=false:=decide_eq_false (by omega)
          obtain rfl:j=i:=by omega
          go_wp2
          go_roundw
          case rel=>exact ⟨j + 1,by omega,by go_num,HNX.out,HCX.out,HCL.out⟩
          case measure=>simp [intOf];omega
     ·have i1:decide ((i:Int) < (n:Int))=false:=decide_eq_false (by omega)
      obtain rfl:i=n:=by omega
      have HF:Hid (comOk ⟨tr,.slice a i cc,ps,au,tm,tx⟩=(x && parF ps i)):=hideIt (by rw [HO.out,HPB.out];simp [Bool.and_comm])
      obtain ⟨g,hg⟩:∃ g,(x && parF ps i)=g:=⟨_,rfl⟩
      rw [hg] at HF
      rw [hg]
      clear hbx hbl hg
      cases g with
      | false =>
       rw [HF.out,if_neg (by decide)] at HE
       go_wp2
       go_ret
       exact ⟨by rw [HE.out] <;> rfl,HBL.out⟩
      | true =>
       rw [HF.out,if_pos rfl] at HE
       go_wp2
       go_ret
       exact ⟨by rw [HE.out] <;> rfl,HBL.out⟩
  ·have q1:((tr.size:Int) == 32)=false:=by
    have:¬ (tr.size:Int)=32:=by omega
    simpa using this
   rw [HI.out,decide_eq_false hI,Bool.false_and,Bool.false_and,Bool.false_and] at HO
   go_enter Tryz.func125,Tryz.ntmps125
   go_wp2_with (first | (go_at_call 159;refine (HA.out _).mono ?_;rintro e w2 ⟨rfl,hb2⟩))
   have HX0:=hideIt (HNB.out)
   have HY0:=hideIt (HAB.out)
   go_loopw [3,4] (fun b t wr=>∃ i:Nat,i≤n∧t=.int .i64 i∧b=.bool (false && parF ps i)∧CBox wr w.heap.size 108 ⟨tr,.slice a n cc,ps,au,tm,tx⟩∧Below w.heap.size w wr) (fun _ t _=>n - (intOf t).toNat)
   case atStart=>exact ⟨0,by omega,rfl,by simp [parF],HX0.out,HY0.out⟩
   case round =>
    obtain ⟨i,hi,rfl,rfl,hbx,hbl⟩:=hrel
    have HBX:=hideIt hbx
    have HBL:=hideIt hbl
    have c1:=hbx.c1
    simp only at c1
    by_cases hlt:i < n
    ·have i1:decide ((i:Int) < (n:Int))=true:=decide_eq_true (by omega)
     have i2:(i:Int) < (n:Int):=by omega
     obtain ⟨b0,o,rfl,hcells⟩:=HCE.out (by rw [HN.out];omega)
     have HCV:=hideIt hcells
     obtain ⟨y,hyi⟩:∃ y,ps[i]? = some y:=⟨ps[i]'(by rw [HN.out];exact hlt),by simp⟩
     have c0:=(hcells.below hbl).2 i y hyi
     have HSU:=hideIt (parF_succ ps i y hyi)
     have HYI:=hideIt hyi
     have HID:Hid (idB y=decide (y.size=32)):=rfl
     obtain ⟨g,hg⟩:∃ g,(false && parF ps i)=g:=⟨_,rfl⟩
     have HNX0:Hid (∀ q,q=(g && idB y)→∀ v,v=(q && !memB y (ps.take i))→Value.bool v=.bool (false && parF ps (i + 1))):=hideIt (fun q hq v hv=>by
      rw [hv,hq,HSU.out,← hg]
      simp)
     rw [hg]
     have HSTP:Hid (∃ p:Bool,p=(g && idB y)∧(g=true→((y.size:Int) == 32)=p)):=hideIt ⟨g && idB y,rfl,fun e=>by
      rw [e,Bool.true_and,HID.out]
      by_cases h:y.size=32
      ·have:(y.size:Int)=32:=by omega
       rw [decide_eq_true h];simpa using this
      ·have:¬ (y.size:Int)=32:=by omega
       rw [decide_eq_false h];simpa using this⟩
     obtain ⟨p,hp,hp2⟩:=HSTP.out
     have HP:=hideIt hp
     clear hcells hyi hbx hbl hg hp HSTP
     cases hgv:g with
     | false =>
      have hp0:p=false:=by rw [HP.out,hgv];rfl
      have HNX:Hid (Value.bool false=.bool (false && parF ps (i + 1))):=hideIt (HNX0.out p HP.out false (by rw [hp0];rfl))
      clear hp2 hp0
      go_wp2
      go_loopw [3,5] (fun b k wr'=>∃ j:Nat,j≤i∧k=.int .i64 j∧b=.bool false∧CBox wr' w.heap.size 108 ⟨tr,.slice (some ⟨b0,o,none⟩) n cc,ps,au,tm,tx⟩∧Below w.heap.size w wr') (fun _ k _=>i - (intOf k).toNat)
      case atStart=>exact ⟨0,by omega,rfl,rfl,HBX.out,HBL.out⟩
      case round =>
       rename_i wr'
       obtain ⟨j,hj,rfl,rfl,hcx,hcl⟩:=hrel
       have HCX:=hideIt hcx
       have HCL:=hideIt hcl
       have c11:=hcx.c1
       simp only at c11
       have c01:=(HCV.out.below hcl).2 i y HYI.out
       clear hcx hcl
       by_cases hjl:j < i
       ·have d1:decide ((j:Int) < (i:Int))=true:=decide_eq_true (by omega)
        have d2:(j:Int) < (i:Int):=by omega
        go_wp2
        go_quiet (fail)
        go_wp2
        go_roundw
        case rel=>exact ⟨j + 1,by omega,by go_num,rfl,cbx_drew HCX.out _,below2 HCL.out (below_drewN _ _)⟩
        case measure=>simp [intOf];omega
       ·have d1:decide ((j:Int) < (i:Int))=false:=decide_eq_false (by omega)
        obtain rfl:j=i:=by omega
        go_wp2
        go_roundw
        case rel=>exact ⟨j + 1,by omega,by go_num,HNX.out,HCX.out,HCL.out⟩
        case measure=>simp [intOf];omega
     | true =>
      have hp1:=hp2 hgv
      cases p with
      | false =>
       have HNX:Hid (Value.bool false=.bool (false && parF ps (i + 1))):=hideIt (HNX0.out false HP.out false rfl)
       clear hp2
       go_wp2
       go_loopw [3,5] (fun b k wr'=>∃ j:Nat,j≤i∧k=.int .i64 j∧b=.bool false∧CBox wr' w.heap.size 108 ⟨tr,.slice (some ⟨b0,o,none⟩) n cc,ps,au,tm,tx⟩∧Below w.heap.size w wr') (fun _ k _=>i - (intOf k).toNat)
       case atStart=>exact ⟨0,by omega,rfl,rfl,HBX.out,HBL.out⟩
       case round =>
        rename_i wr'
        obtain ⟨j,hj,rfl,rfl,hcx,hcl⟩:=hrel
        have HCX:=hideIt hcx
        have HCL:=hideIt hcl
        have c11:=hcx.c1
        simp only at c11
        have c01:=(HCV.out.below hcl).2 i y HYI.out
        clear hcx hcl
        by_cases hjl:j < i
        ·have d1:decide ((j:Int) < (i:Int))=true:=decide_eq_true (by omega)
         have d2:(j:Int) < (i:Int):=by omega
         go_wp2
         go_quiet (fail)
         go_wp2
         go_roundw
         case rel=>exact ⟨j + 1,by omega,by go_num,rfl,cbx_drew HCX.out _,below2 HCL.out (below_drewN _ _)⟩
         case measure=>simp [intOf];omega
        ·have d1:decide ((j:Int) < (i:Int))=false:=decide_eq_false (by omega)
         obtain rfl:j=i:=by omega
         go_wp2
         go_roundw
         case rel=>exact ⟨j + 1,by omega,by go_num,HNX.out,HCX.out,HCL.out⟩
         case measure=>simp [intOf];omega
      | true =>
       have HNX:Hid (Value.bool (!memB y (ps.take i))=.bool (false && parF ps (i + 1))):=hideIt (HNX0.out true HP.out _ (by simp))
       clear hp2
       go_wp2
       go_loopw [3,5] (fun b k wr'=>∃ j:Nat,j≤i∧k=.int .i64 j∧b=.bool (!memB y (ps.take j))∧CBox wr' w.heap.size 108 ⟨tr,.slice (some ⟨b0,o,none⟩) n cc,ps,au,tm,tx⟩∧Below w.heap.size w wr') (fun _ k _=>i - (intOf k).toNat)
       case atStart=>exact ⟨0,by omega,rfl,by simp [memB],HBX.out,HBL.out⟩
       case round =>
        rename_i wr'
        obtain ⟨j,hj,rfl,rfl,hcx,hcl⟩:=hrel
        have HCX:=hideIt hcx
        have HCL:=hideIt hcl
        have c11:=hcx.c1
        simp only at c11
        have c01:=(HCV.out.below hcl).2 i y HYI.out
        clear hcx hcl
        by_cases hjl:j < i
        ·have d1:decide ((j:Int) < (i:Int))=true:=decide_eq_true (by omega)
         have d2:(j:Int) < (i:Int):=by omega
         have d3:(j:Int) < (n:Int):=by omega
         obtain ⟨z,hzj⟩:∃ z,ps[j]? = some z:=⟨ps[j]'(by rw [HN.out];omega),by simp⟩
         have cz:=(HCV.out.below HCL.out).2 j z hzj
         have HMT:=hideIt (memB_take y z ps j hzj)
         obtain ⟨m,hm⟩:∃ m,memB y (ps.take j)=m:=⟨_,rfl⟩
         rw [hm] at HMT
         rw [hm]
         clear hzj hm
         cases m with
         | true =>
          simp only [Bool.not_true]
          go_wp2
          go_quiet (fail)
          go_wp2
          go_roundw
          case rel=>exact ⟨j + 1,by omega,by go_num,by rw [HMT.out];rfl,cbx_drew HCX.out _,below2 HCL.out (below_drewN _ _)⟩
          case measure=>simp [intOf];omega
         | false =>
          simp only [Bool.not_false]
          by_cases hzy:z=y
          ·have z1:(z.toList == y.toList)=true:=by rw [bytes_eq,decide_eq_true hzy]
           have z2:(z.toList != y.toList)=false:=by rw [bne,z1];rfl
           have z3:(y.toList == z.toList)=true:=by rw [bytes_eq,decide_eq_true hzy.symm]
           have HMZ:=hideIt z3
           clear z3 hzy
           go_wp2
           go_quiet (fail)
           go_wp2
           go_roundw
           case rel=>exact ⟨j + 1,by omega,by go_num,by rw [HMT.out,HMZ.out];rfl,cbx_drew HCX.out _,below2 HCL.out (below_drewN _ _)⟩
           case measure=>simp [intOf];omega
          ·have z1:(z.toList == y.toList)=false:=by rw [bytes_eq,decide_eq_false hzy]
           have z2:(z.toList != y.toList)=true:=by rw [bne,z1];rfl
           have z3:(y.toList == z.toList)=false:=by rw [bytes_eq,decide_eq_false (fun e=>hzy e.symm)]
           have HMZ:=hideIt z3
           clear z3 hzy
           go_wp2
           go_quiet (fail)
           go_wp2
           go_roundw
           case rel=>exact ⟨j + 1,by omega,by go_num,by rw [HMT.out,HMZ.out];rfl,cbx_drew HCX.out _,below2 HCL.out (below_drewN _ _)⟩
           case measure=>simp [intOf];omega
        ·have d1:decide ((j:Int) < (i:Int))=false:=decide_eq_false (by omega)
         obtain rfl:j=i:=by omega
         go_wp2
         go_roundw
         case rel=>exact ⟨j + 1,by omega,by go_num,HNX.out,HCX.out,HCL.out⟩
         case measure=>simp [intOf];omega
    ·have i1:decide ((i:Int) < (n:Int))=false:=decide_eq_false (by omega)
     obtain rfl:i=n:=by omega
     have HF:Hid (comOk ⟨tr,.slice a i cc,ps,au,tm,tx⟩=(false && parF ps i)):=hideIt (by rw [HO.out];simp)
     obtain ⟨g,hg⟩:∃ g,(false && parF ps i)=g:=⟨_,rfl⟩
     rw [hg] at HF
     rw [hg]
     clear hbx hbl hg
     cases g with
     | false =>
      rw [HF.out,if_neg (by decide)] at HE
      go_wp2
      go_ret
      exact ⟨by rw [HE.out] <;> rfl,HBL.out⟩
     | true =>
      rw [HF.out,if_pos rfl] at HE
      go_wp2
      go_ret
      exact ⟨by rw [HE.out] <;> rfl,HBL.out⟩
end Ob
end Go.Proofs.YtogjlepdejonpaaGreatDoor
namespace Go.Proofs.YtogjlepdejonpaaGreatDoor
namespace Ob
open Go.RowKit Go.Shelf
theorem hasW_fsl (wd L:List UInt8) (hw:(10:UInt8) ∉ wd):hasW wd L=hasW wd (fsl L).1:=by
 unfold fsl
 cases hc:cutc 10 L with
 | none=>rfl
 | some p =>
  obtain ⟨a,r⟩:=p
  obtain ⟨e,-⟩:=cutc_some 10 L a r hc
  simp only
  rw [Bool.eq_iff_iff]
  unfold hasW
  rw [List.isPrefixOf_iff_prefix,List.isPrefixOf_iff_prefix]
  constructor
  ·intro h
   rw [e] at h
   rcases Nat.lt_or_ge a.length (wd ++ [32]).length with hl | hl
   ·exfalso
    have h1:=List.prefix_iff_eq_take.1 h
    have h2:(wd ++ [32])[a.length]? = some 10:=by
     rw [h1,List.getElem?_take,if_pos hl]
     simp
    have h3:(10:UInt8) ∈ wd ++ [32]:=List.mem_of_getElem? h2
    simp only [List.mem_append,List.mem_cons,List.not_mem_nil,or_false] at h3
    rcases h3 with h3 | h3
    ·exact hw h3
    ·revert h3;decide
   ·exact List.prefix_of_prefix_length_le h ⟨10 :: r,rfl⟩ hl
  ·intro h
   rw [e]
   exact h.trans ⟨10 :: r,rfl⟩
theorem tkO_hasW {wd L:List UInt8} (hw:(10:UInt8) ∉ wd) (h:tkO wd L=true):hasW wd L=true:=by
 rw [hasW_fsl wd L hw]
 unfold tkO at h
 rw [Bool.and_eq_true] at h
 exact h.2
theorem par_aut {L:List UInt8} (h:hasW parentW L=true):tkO authorW L=false:=by
 cases ha:tkO authorW L with
 | false=>rfl
 | true =>
  exfalso
  have h2:=tkO_hasW (wd:=authorW) (by decide) ha
  unfold hasW at h h2
  obtain ⟨a,ha⟩:=List.isPrefixOf_iff_prefix.1 h
  obtain ⟨b,hb⟩:=List.isPrefixOf_iff_prefix.1 h2
  rw [← hb] at ha
  have:=congrArg List.head? ha
  revert this
  simp [parentW,authorW]
structure GD (w0:World) (M:Nat) (c:Cm) (w:World):Prop where
 res:CBox w w0.heap.size 108 cmZ
 cb:CBox w M 108 c
 far:w0.heap.size + 1≤M
 bel:Below w0.heap.size w0 w
 row:w.ownsRow (M + 1) 9 1 c.pv c.ps.length (c.ps.map .string)
theorem GD.below {w0 w w':World} {M:Nat} {c:Cm} (h:GD w0 M c w) (hb:Below w.heap.size w w'):GD w0 M c w' :=
 ⟨h.res.below hb,h.cb.below hb,h.far,below2 h.bel hb,row_below h.row hb⟩
theorem GD.put {w0 w w':World} {M:Nat} {c c':Cm} (h:GD w0 M c w) (hg:w.grownBy w' (some M)) (hc:CBox w' M 108 c') (he:c'.pv=c.pv∧c'.ps=c.ps):GD w0 M c' w' :=
 ⟨h.res.grown hg (by have:=h.far;omega),hc,h.far,h.bel.grown hg (h.bel.size) (fun k hk=>by have:=h.far;simp at hk;omega),by rw [he.1,he.2];exact row_kept h.row (by omega) hg⟩
theorem CBox.put0 {w:World} {N:Nat} {T:TypeId} {c:Cm} (h:CBox w N T c) (s:ByteArray):CBox (w.setCell ⟨N,0,none⟩ (.string s)) N T { c with tr:=s }:=⟨by simp [World.setCell,h.blk,Array.getElem?_modify]⟩
theorem GD.set0 {w0 w:World} {M:Nat} {c:Cm} (h:GD w0 M c w) (s:ByteArray):GD w0 M { c with tr:=s } (w.setCell ⟨M,0,none⟩ (.string s)):=h.put (grown_set _ _ _ _) (h.cb.put0 s) ⟨rfl,rfl⟩
theorem GD.set2 {w0 w:World} {M:Nat} {c:Cm} (h:GD w0 M c w) (s:ByteArray):GD w0 M { c with au:=s } (w.setCell ⟨M,2,none⟩ (.string s)):=h.put (grown_set _ _ _ _) (h.cb.set2 s) ⟨rfl,rfl⟩
theorem GD.set3 {w0 w:World} {M:Nat} {c:Cm} (h:GD w0 M c w) (k:Nat):GD w0 M { c with tm:=k } (w.setCell ⟨M,3,none⟩ (.int .u64 (k:Int))):=h.put (grown_set _ _ _ _) (h.cb.set3 k) ⟨rfl,rfl⟩
theorem GD.set4 {w0 w:World} {M:Nat} {c:Cm} (h:GD w0 M c w) (s:ByteArray):GD w0 M { c with tx:=s } (w.setCell ⟨M,4,none⟩ (.string s)):=h.put (grown_set _ _ _ _) (h.cb.set4 s) ⟨rfl,rfl⟩
theorem GD.start (w0:World):GD w0 (w0.heap.size + 1) cmZ ((w0.alloc (.cells #[.string ⟨#[]⟩,.slice none 0 0,.string ⟨#[]⟩,.int .u64 0,.string ⟨#[]⟩] 108)).alloc (.cells #[.string ⟨#[]⟩,.slice none 0 0,.string ⟨#[]⟩,.int .u64 0,.string ⟨#[]⟩] 108)) :=
 ⟨CBox.below (CBox.new w0 108 cmZ) (new_below _ _),⟨Cb.alloc_at (by simp)⟩,Nat.le_refl _,below2 (new_below _ _) (new_below _ _),⟨rfl,.inl ⟨rfl,rfl⟩⟩⟩
theorem GD.append {w0 w1 w3:World} {M:Nat} {c:Cm} (h:GD w0 M c w1) {o:Obj} {v3:Value} {U:ByteArray} (hg:(w1.alloc o).grownBy w3 c.pv.ownBlock) (hown:w3.ownsRow (M + 1) 9 1 v3 (c.ps.length + 1) (c.ps.map .string ++ [.string U])) :
  CBox w3 M 108 c∧GD w0 M { c with pv:=v3,ps:=c.ps ++ [U] } (w3.setCell ⟨M,1,none⟩ v3):=by
 have hn:=new_below w1 o
 have ne:∀ k,k≤M→some k≠c.pv.ownBlock:=fun k hk e=>by
  have:=row_ge1 h.row k e.symm
  omega
 have hf:=h.far
 have hc3:CBox w3 M 108 c:=(h.cb.below hn).grownO hg (ne M (by omega))
 have hgs:=grown_set w3 M 1 v3
 refine ⟨hc3,⟨((h.res.below hn).grownO hg (ne _ (by omega))).grown hgs (by omega),hc3.set1 v3 _,hf,?_,?_⟩⟩
 ·have b1:Below w0.heap.size w0 w3:=(below2 h.bel hn).grown hg ((below2 h.bel hn).size) (fun k hk=>by have:=row_ge1 h.row k hk;omega)
  exact b1.grown hgs b1.size (fun k hk=>by simp at hk;omega)
 ·show (w3.setCell ⟨M,1,none⟩ v3).ownsRow (M + 1) 9 1 v3 (c.ps ++ [U]).length ((c.ps ++ [U]).map .string)
  rw [List.length_append,List.map_append]
  exact row_kept hown (by omega) hgs
theorem GD.drew {w0 w:World} {M:Nat} {c:Cm} (h:GD w0 M c w):GD w0 M c w.drew:=h.below ((Below.refl _ _).drew)
def szS:Value→Nat
 | .string s=>s.size
 | _=>0
theorem tx_cases2 (L:List UInt8):(L=[]∧txO L=false)∨(∃ c r,L=c :: r∧c≠10∧txO L=false)∨(∃ r,L=10 :: r∧txO L=true):=by
 cases L with
 | nil=>exact .inl ⟨rfl,rfl⟩
 | cons c r =>
  by_cases h:c=10
  ·subst h
   exact .inr (.inr ⟨r,rfl,by simp [txO,List.isPrefixOf]⟩)
  ·exact .inr (.inl ⟨c,r,rfl,h,by simp [txO,List.isPrefixOf];exact fun e=>h e.symm⟩)
theorem refUndec_c (L:List UInt8) (h:L.length≤1000000) (w:World):Calls Tryz.prog 119 #[.string (bs L)] w fun e w'=>e=.returned (.tuple #[.int .u64 (undN L:Int),.int .i64 (if undO L=true then 0 else 6)])∧w=w':=by
 have:=Cb.refundec_any (bs L) w (by rw [bs_size];exact h)
 rw [bs_list,udV_eq] at this
 exact this.mono fun _ _ h=>⟨h.1,h.2.symm⟩
set_option maxHeartbeats 6400000 in
set_option maxRecDepth 100000 in
theorem refgetCommit_any (L:List UInt8) (w:World) (hL:L.length≤100000) :
  Calls Tryz.prog 72 #[.string (bs L)] w fun e w'=>GetTo w L e w':=by
 have HTO:Hid (∀ e w',GetTo w L e w'↔∃ c:Cm,e=.returned (.tuple #[cmV c,.int .i64 (gCz L)])∧SRow w' c.pv c.ps∧(gCz L=0→c={ gCm L with pv:=c.pv })∧(gCz L≠0→c=cmZ)∧Below w.heap.size w w'):=hideIt (fun _ _=>Iff.rfl)
 have HBAD:Hid (∀ w',gCz L=6→Below w.heap.size w w'→GetTo w L (.returned (.tuple #[cmV cmZ,.int .i64 6])) w'):=hideIt (fun w' hg hb=>⟨cmZ,by rw [hg],SRow.nil _,fun h=>by rw [hg] at h;omega,fun _=>rfl,hb⟩)
 have HL1:=hideIt (fun w=>refline_any treeW L (by omega) (by decide) w)
 have hr1:=lnR_len treeW L
 have ht1:=lnT_len treeW L
 have HID:=hideIt (fun w=>refidl_any (lnT treeW L) (by omega) w)
 rw [lnV_eq] at HL1
 have HO1:Hid (tkO treeW L=true→lnR treeW L=tkR L∧lnT treeW L=tkT treeW L):=hideIt (fun h=>by unfold lnR lnT;rw [if_pos h,if_pos h];exact ⟨rfl,rfl⟩)
 obtain ⟨o,ho⟩:∃ o,tkO treeW L=o:=⟨_,rfl⟩
 have HO:=hideIt ho
 rw [ho] at HL1 HO1
 obtain ⟨R0,hR0⟩:∃ R,lnR treeW L=R:=⟨_,rfl⟩
 rw [hR0] at HL1 HO1 hr1
 obtain ⟨T,hT⟩:∃ T,unhB (lnT treeW L)=T:=⟨_,rfl⟩
 have HT:=hideIt hT
 obtain ⟨io,hio⟩:∃ io,idO (lnT treeW L)=io:=⟨_,rfl⟩
 rw [hT,hio] at HID
 obtain ⟨S,hS⟩:∃ S,bs L=S:=⟨_,rfl⟩
 obtain ⟨A,hA⟩:∃ A,bs (lnT treeW L)=A:=⟨_,rfl⟩
 rw [hS] at HL1 ⊢
 rw [hA] at HL1 HID
 have HST:=hideIt (GD.start w)
 obtain ⟨i0,hi0,hz0,hz1,hz2⟩:=info_parts infoS
 clear ho hR0 hT hio hS hA
 go_enter Tryz.func72,Tryz.ntmps72
 go_wp2_with (first
  | (go_at_call 123;refine (HL1.out _).mono ?_;rintro e w1 ⟨rfl,hb1⟩)
  | (go_at_call 124;refine (HID.out _).mono ?_;rintro e w2 ⟨rfl,hb2⟩;have G2:=hideIt ((HST.out.below hb1).below hb2);have c20:=G2.out.cb.c0;have f20:=G2.out.cb.f0;dsimp only [cmZ] at c20))
 have G3:=hideIt (G2.out.set0 T)
 obtain ⟨M,hM⟩:∃ M,w.heap.size + 1=M:=⟨_,rfl⟩
 rw [hM] at G3 ⊢
 clear hM G2 HST hb1 hb2 HL1 HID c20 f20
 go_loopw [6] (fun s wr=>∃ (R:List UInt8) (f:Nat) (v:Value) (ps:List ByteArray),s=.string (bs R)∧R.length≤f∧R.length + ps.length≤100000∧GD w M ⟨T,v,ps,⟨#[]⟩,0,⟨#[]⟩⟩ wr∧(o=true→gPs (tkR L).length (tkR L)=(ps ++ (gPs f R).1,(gPs f R).2.1,(gPs f R).2.2))) (fun s _=>szS s)
 case atStart =>
  refine ⟨R0,R0.length,_,[],rfl,Nat.le_refl _,by simp;omega,G3.out,fun h=>?_⟩
  rw [← (HO1.out h).1]
  simp
 case round =>
  obtain ⟨R,f,v,ps,rfl,hf,hRl,g,hgp⟩:=hrel
  have HG:=hideIt g
  have HGP:=hideIt hgp
  clear g hgp G3
  have hRl1:R.length≤100000:=by omega
  have HP:=hideIt (fun w=>refline_any parentW R (by omega) (by decide) w)
  have HA:=hideIt (fun w=>refline_any authorW R (by omega) (by decide) w)
  have ha1:=lnR_len authorW R
  have ha3:=lnT_len authorW R
  have HTM:=hideIt (fun w=>refline_any timeW (lnR authorW R) (by omega) (by decide) w)
  have ha2:=lnT_len timeW (lnR authorW R)
  have ha4:=lnR_len timeW (lnR authorW R)
  have HU:=hideIt (fun w=>refUndec_c (lnT timeW (lnR authorW R)) (by omega) w)
  rw [lnV_eq] at HP HA HTM
  obtain ⟨AT,hAT⟩:∃ X,bs (lnT authorW R)=X:=⟨_,rfl⟩
  obtain ⟨AR,hAR⟩:∃ X,bs (lnR authorW R)=X:=⟨_,rfl⟩
  obtain ⟨o2,ho2⟩:∃ X,tkO authorW R=X:=⟨_,rfl⟩
  obtain ⟨TT,hTT⟩:∃ X,bs (lnT timeW (lnR authorW R))=X:=⟨_,rfl⟩
  obtain ⟨r3,hr3⟩:∃ X,lnR timeW (lnR authorW R)=X:=⟨_,rfl⟩
  obtain ⟨o3,ho3⟩:∃ X,tkO timeW (lnR authorW R)=X:=⟨_,rfl⟩
  obtain ⟨un,hun⟩:∃ X,undN (lnT timeW (lnR authorW R))=X:=⟨_,rfl⟩
  obtain ⟨ue,hue⟩:∃ X:Int,(if undO (lnT timeW (lnR authorW R))=true then 0 else 6)=X:=⟨_,rfl⟩
  obtain ⟨RR,hRR⟩:∃ X,bs R=X:=⟨_,rfl⟩
  rw [hRR,hAT,hAR,ho2] at HA
  rw [hAR,hTT,hr3,ho3] at HTM
  rw [hTT,hun,hue] at HU
  rw [hRR] at HP ⊢
  rw [hr3] at ha4
  have HRR:=hideIt hRR
  clear hRR
  cases o with
  | false =>
   have hg:gCz L=6:=by
    unfold gCz gCo
    rw [HO.out,if_neg (by simp)]
   have G0:=HG
   clear HP
   go_wp2_with (first | (go_at_call_of 123 (Value.string ⟨#[97,117,116,104,111,114]⟩);refine (HA.out _).mono ?_;rintro e w4 ⟨rfl,hb4⟩;have G4:=hideIt (G0.out.below hb4)) | (go_at_call_of 123 (Value.string ⟨#[116,105,109,101]⟩);refine (HTM.out _).mono ?_;rintro e w5 ⟨rfl,hb5⟩;have G5:=hideIt (G4.out.below hb5);have e0:=G5.out.res.c0;have e1:=G5.out.res.c1;have e2:=G5.out.res.c2;have e3:=G5.out.res.c3;have e4:=G5.out.res.c4;have g0:=G5.out.res.f0;have g1:=G5.out.res.f1;have g2:=G5.out.res.f2;have g3:=G5.out.res.f3;have g4:=G5.out.res.f4;have a0:=G5.out.cb.c0;have a1:=G5.out.cb.c1;have a2:=G5.out.cb.c2;have a3:=G5.out.cb.c3;have a4:=G5.out.cb.c4;have b2:=G5.out.cb.f2;have b3:=G5.out.cb.f3;have b4:=G5.out.cb.f4;have hn1:¬ M=w.heap.size:=(by have:=G5.out.far;omega);have hn2:¬ w.heap.size=M:=(by have:=G5.out.far;omega);dsimp only [cmZ] at a0 a1 a2 a3 a4 e0 e1 e2 e3 e4) | (go_at_call 119;refine (HU.out _).mono ?_;rintro e w6 ⟨rfl,rfl⟩))
   refine bodyPost_ret (v:=.tuple #[cmV cmZ,.int .i64 6]) ?_ rfl (HBAD.out _ hg (put5 G5.out.bel _ _ _ _ _))
   rw [results_c2 rfl]
   go_simp
   rfl
  | true =>
   have HGP1:=hideIt (HGP.out rfl)
   clear HGP
   have hp1:=lnR_len parentW R
   have hp2:=lnT_len parentW R
   obtain ⟨op,hop⟩:∃ X,tkO parentW R=X:=⟨_,rfl⟩
   rw [hop] at HP
   cases op with
   | true =>
    have e1:lnT parentW R=tkT parentW R:=by unfold lnT;rw [if_pos hop]
    have e2:lnR parentW R=tkR R:=by unfold lnR;rw [if_pos hop]
    have hw:hasW parentW R=true:=tkO_hasW (by decide) hop
    obtain ⟨f2,hf2,hgs⟩:=gPs_step f R hf hw
    have hless:=tkR_less (hasW_ne hw)
    have HIP:=hideIt (fun w=>refidl_any (tkT parentW R) (by rw [← e1];omega) w)
    rw [e1,e2] at HP
    rw [hop,Bool.true_and] at hgs
    have HGS:=hideIt hgs
    obtain ⟨PT,hPT⟩:∃ X,bs (tkT parentW R)=X:=⟨_,rfl⟩
    obtain ⟨U,hU⟩:∃ X,unhB (tkT parentW R)=X:=⟨_,rfl⟩
    obtain ⟨ip,hip⟩:∃ X,idO (tkT parentW R)=X:=⟨_,rfl⟩
    rw [hPT] at HP HIP
    rw [hU,hip] at HIP HGS
    have hsz:RR.size=R.length:=by rw [← HRR.out,bs_size]
    have HSZ:=hideIt hsz
    clear e1 e2 hw hgs hPT hU hip hsz
    cases ip with
    | true =>
     go_wp2_with (first
      | (go_at_call_of 123 (Value.string ⟨#[112,97,114,101,110,116]⟩);refine (HP.out _).mono ?_;rintro e w3 ⟨rfl,hb3⟩;have G0:=hideIt (HG.out.below hb3))
      | (go_at_call 124;refine (HIP.out _).mono ?_;rintro e w7 ⟨rfl,hb7⟩;have G7:=hideIt (G0.out.below hb7);have k1:=G7.out.cb.c1;have k2:=(G7.out.cb.below (new_below w7 (.cells #[.string U] 9))).c1;dsimp only at k1 k2)
      | (at_builtin;refine wpList_append_own _ rfl _ _ 22 rfl (M + 1) 9 i0 (.string ⟨#[]⟩) 1 16 Tryz.underlying22 hi0 hz0 hz1 hz2 rfl (by decide) _ _ _ rfl (G7.out.row.alloc _) ⟨w7.heap.size,0,none⟩ 1 1 [.string U] rfl rfl (one_str (w:=w7) U) (fun u hu=>by simp at hu;subst hu;rfl) (by unfold maxLen;simp only;omega) (by simp only;omega) (by have:=G7.out.cb.lt;simp;omega) ?_;intro v8 w8 hown8 hg8 hnil8;obtain ⟨g8,cp8,rfl⟩:=row_form hown8;have A8:=hideIt (G7.out.append hg8 hown8);have x1:=A8.out.1.c1;have y1:=A8.out.1.f1;dsimp only at x1))
     go_roundw
     case rel =>
      refine ⟨tkR R,f2,_,ps ++ [U],rfl,hf2,?_,A8.out.2,fun _=>?_⟩
      ·rw [List.length_append]
       simp only [List.length_cons,List.length_nil]
       omega
      ·rw [HGP1.out,HGS.out]
       simp
     case measure =>
      show (bs (tkR R)).size < RR.size
      rw [bs_size,HSZ.out]
      exact hless
    | false =>
     have hg:gCz L=6:=by
      unfold gCz gCo
      rw [HGP1.out,HGS.out,if_neg (by simp)]
     go_wp2_with (first | (go_at_call_of 123 (Value.string ⟨#[112,97,114,101,110,116]⟩);refine (HP.out _).mono ?_;rintro e w3 ⟨rfl,hb3⟩;have G0:=hideIt (HG.out.below hb3)) | (go_at_call 124;refine (HIP.out _).mono ?_;rintro e w7 ⟨rfl,hb7⟩;have G5:=hideIt (G0.out.below hb7);have e0:=G5.out.res.c0;have e1:=G5.out.res.c1;have e2:=G5.out.res.c2;have e3:=G5.out.res.c3;have e4:=G5.out.res.c4;have g0:=G5.out.res.f0;have g1:=G5.out.res.f1;have g2:=G5.out.res.f2;have g3:=G5.out.res.f3;have g4:=G5.out.res.f4;have a0:=G5.out.cb.c0;have a1:=G5.out.cb.c1;have a2:=G5.out.cb.c2;have a3:=G5.out.cb.c3;have a4:=G5.out.cb.c4;have b2:=G5.out.cb.f2;have b3:=G5.out.cb.f3;have b4:=G5.out.cb.f4;have hn1:¬ M=w.heap.size:=(by have:=G5.out.far;omega);have hn2:¬ w.heap.size=M:=(by have:=G5.out.far;omega);dsimp only [cmZ] at a0 a1 a2 a3 a4 e0 e1 e2 e3 e4))
     refine bodyPost_ret (v:=.tuple #[cmV cmZ,.int .i64 6]) ?_ rfl (HBAD.out _ hg (put5 G5.out.bel _ _ _ _ _))
     rw [results_c2 rfl]
     go_simp
     rfl
   | false =>
    obtain ⟨PX,hPX⟩:∃ X,bs (lnT parentW R)=X:=⟨_,rfl⟩
    obtain ⟨PY,hPY⟩:∃ X,bs (lnR parentW R)=X:=⟨_,rfl⟩
    rw [hPX,hPY] at HP
    clear hPX hPY hp1 hp2
    cases hh:hasW parentW R with
    | true =>
     have hg:gCz L=6:=by
      obtain ⟨f2,hf2,hgs⟩:=gPs_step f R hf hh
      unfold gCz gCo
      rw [HGP1.out,hgs,hop,if_neg (by simp)]
     have h2:o2=false:=by rw [← ho2];exact par_aut hh
     subst h2
     go_wp2_with (first | (go_at_call_of 123 (Value.string ⟨#[112,97,114,101,110,116]⟩);refine (HP.out _).mono ?_;rintro e w3 ⟨rfl,hb3⟩;have G0:=hideIt (HG.out.below hb3)) | (go_at_call_of 123 (Value.string ⟨#[97,117,116,104,111,114]⟩);refine (HA.out _).mono ?_;rintro e w4 ⟨rfl,hb4⟩;have G4:=hideIt (G0.out.below hb4)) | (go_at_call_of 123 (Value.string ⟨#[116,105,109,101]⟩);refine (HTM.out _).mono ?_;rintro e w5 ⟨rfl,hb5⟩;have G5:=hideIt (G4.out.below hb5);have e0:=G5.out.res.c0;have e1:=G5.out.res.c1;have e2:=G5.out.res.c2;have e3:=G5.out.res.c3;have e4:=G5.out.res.c4;have g0:=G5.out.res.f0;have g1:=G5.out.res.f1;have g2:=G5.out.res.f2;have g3:=G5.out.res.f3;have g4:=G5.out.res.f4;have a0:=G5.out.cb.c0;have a1:=G5.out.cb.c1;have a2:=G5.out.cb.c2;have a3:=G5.out.cb.c3;have a4:=G5.out.cb.c4;have b2:=G5.out.cb.f2;have b3:=G5.out.cb.f3;have b4:=G5.out.cb.f4;have hn1:¬ M=w.heap.size:=(by have:=G5.out.far;omega);have hn2:¬ w.heap.size=M:=(by have:=G5.out.far;omega);dsimp only [cmZ] at a0 a1 a2 a3 a4 e0 e1 e2 e3 e4) | (go_at_call 119;refine (HU.out _).mono ?_;rintro e w6 ⟨rfl,rfl⟩))
     refine bodyPost_ret (v:=.tuple #[cmV cmZ,.int .i64 6]) ?_ rfl (HBAD.out _ hg (put5 G5.out.bel _ _ _ _ _))
     rw [results_c2 rfl]
     go_simp
     rfl
    | false =>
     have HGE:Hid (gPs (tkR L).length (tkR L)=(ps,R,true)):=hideIt (by rw [HGP1.out,gPs_end f R hh];simp)
     have HGO:Hid (gCo L=(decide (T.size=32) && tkO authorW R && (tkO timeW (tkR R) && undO (tkT timeW (tkR R))) && txO (tkR (tkR R)))):=hideIt (by
      unfold gCo
      rw [HGE.out,HO.out,idO_eq,← (HO1.out rfl).2,HT.out]
      simp)
     have HCM:Hid (gCm L=⟨T,.slice none 0 0,ps,bs (tkT authorW R),undN (tkT timeW (tkR R)),bs (txT (tkR (tkR R)))⟩):=hideIt (by unfold gCm;rw [HGE.out,← (HO1.out rfl).2,HT.out])
     clear HGP1 hh hop
     cases o2 with
     | false =>
      have hg:gCz L=6:=by
       unfold gCz
       rw [HGO.out,ho2,if_neg (by simp)]
      go_wp2_with (first | (go_at_call_of 123 (Value.string ⟨#[112,97,114,101,110,116]⟩);refine (HP.out _).mono ?_;rintro e w3 ⟨rfl,hb3⟩;have G0:=hideIt (HG.out.below hb3)) | (go_at_call_of 123 (Value.string ⟨#[97,117,116,104,111,114]⟩);refine (HA.out _).mono ?_;rintro e w4 ⟨rfl,hb4⟩;have G4:=hideIt (G0.out.below hb4)) | (go_at_call_of 123 (Value.string ⟨#[116,105,109,101]⟩);refine (HTM.out _).mono ?_;rintro e w5 ⟨rfl,hb5⟩;have G5:=hideIt (G4.out.below hb5);have e0:=G5.out.res.c0;have e1:=G5.out.res.c1;have e2:=G5.out.res.c2;have e3:=G5.out.res.c3;have e4:=G5.out.res.c4;have g0:=G5.out.res.f0;have g1:=G5.out.res.f1;have g2:=G5.out.res.f2;have g3:=G5.out.res.f3;have g4:=G5.out.res.f4;have a0:=G5.out.cb.c0;have a1:=G5.out.cb.c1;have a2:=G5.out.cb.c2;have a3:=G5.out.cb.c3;have a4:=G5.out.cb.c4;have b2:=G5.out.cb.f2;have b3:=G5.out.cb.f3;have b4:=G5.out.cb.f4;have hn1:¬ M=w.heap.size:=(by have:=G5.out.far;omega);have hn2:¬ w.heap.size=M:=(by have:=G5.out.far;omega);dsimp only [cmZ] at a0 a1 a2 a3 a4 e0 e1 e2 e3 e4) | (go_at_call 119;refine (HU.out _).mono ?_;rintro e w6 ⟨rfl,rfl⟩))
      refine bodyPost_ret (v:=.tuple #[cmV cmZ,.int .i64 6]) ?_ rfl (HBAD.out _ hg (put5 G5.out.bel _ _ _ _ _))
      rw [results_c2 rfl]
      go_simp
      rfl
     | true =>
      have e1:lnT authorW R=tkT authorW R:=by unfold lnT;rw [if_pos ho2]
      have e2:lnR authorW R=tkR R:=by unfold lnR;rw [if_pos ho2]
      rw [e2] at ho3 hr3 hue hun ha4 ha1
      rw [e1] at hAT ha3
      clear e1 e2 hTT hAR
      cases o3 with
      | false =>
       have hg:gCz L=6:=by
        unfold gCz
        rw [HGO.out,ho2,ho3,if_neg (by simp)]
       go_wp2_with (first | (go_at_call_of 123 (Value.string ⟨#[112,97,114,101,110,116]⟩);refine (HP.out _).mono ?_;rintro e w3 ⟨rfl,hb3⟩;have G0:=hideIt (HG.out.below hb3)) | (go_at_call_of 123 (Value.string ⟨#[97,117,116,104,111,114]⟩);refine (HA.out _).mono ?_;rintro e w4 ⟨rfl,hb4⟩;have G4:=hideIt (G0.out.below hb4)) | (go_at_call_of 123 (Value.string ⟨#[116,105,109,101]⟩);refine (HTM.out _).mono ?_;rintro e w5 ⟨rfl,hb5⟩;have G5:=hideIt (G4.out.below hb5);have e0:=G5.out.res.c0;have e1:=G5.out.res.c1;have e2:=G5.out.res.c2;have e3:=G5.out.res.c3;have e4:=G5.out.res.c4;have g0:=G5.out.res.f0;have g1:=G5.out.res.f1;have g2:=G5.out.res.f2;have g3:=G5.out.res.f3;have g4:=G5.out.res.f4;have a0:=G5.out.cb.c0;have a1:=G5.out.cb.c1;have a2:=G5.out.cb.c2;have a3:=G5.out.cb.c3;have a4:=G5.out.cb.c4;have b2:=G5.out.cb.f2;have b3:=G5.out.cb.f3;have b4:=G5.out.cb.f4;have hn1:¬ M=w.heap.size:=(by have:=G5.out.far;omega);have hn2:¬ w.heap.size=M:=(by have:=G5.out.far;omega);dsimp only [cmZ] at a0 a1 a2 a3 a4 e0 e1 e2 e3 e4) | (go_at_call 119;refine (HU.out _).mono ?_;rintro e w6 ⟨rfl,rfl⟩))
       refine bodyPost_ret (v:=.tuple #[cmV cmZ,.int .i64 6]) ?_ rfl (HBAD.out _ hg (put5 G5.out.bel _ _ _ _ _))
       rw [results_c2 rfl]
       go_simp
       rfl
      | true =>
       have e3:lnT timeW (tkR R)=tkT timeW (tkR R):=by unfold lnT;rw [if_pos ho3]
       have e4:lnR timeW (tkR R)=tkR (tkR R):=by unfold lnR;rw [if_pos ho3]
       rw [e3] at hue hun
       rw [e4] at hr3
       by_cases hT32:T.size=32
       ·have u1:((T.size:Int) != 32)=false:=by simp;omega
        have u2:(T.size:Int)=32:=by omega
        cases huo:undO (tkT timeW (tkR R)) with
        | false =>
         have hg:gCz L=6:=by
          unfold gCz
          rw [HGO.out,ho2,ho3,huo,if_neg (by simp)]
         rw [huo,if_neg (by decide)] at hue
         subst hue
         go_wp2_with (first | (go_at_call_of 123 (Value.string ⟨#[112,97,114,101,110,116]⟩);refine (HP.out _).mono ?_;rintro e w3 ⟨rfl,hb3⟩;have G0:=hideIt (HG.out.below hb3)) | (go_at_call_of 123 (Value.string ⟨#[97,117,116,104,111,114]⟩);refine (HA.out _).mono ?_;rintro e w4 ⟨rfl,hb4⟩;have G4:=hideIt (G0.out.below hb4)) | (go_at_call_of 123 (Value.string ⟨#[116,105,109,101]⟩);refine (HTM.out _).mono ?_;rintro e w5 ⟨rfl,hb5⟩;have G5:=hideIt (G4.out.below hb5);have e0:=G5.out.res.c0;have e1:=G5.out.res.c1;have e2:=G5.out.res.c2;have e3:=G5.out.res.c3;have e4:=G5.out.res.c4;have g0:=G5.out.res.f0;have g1:=G5.out.res.f1;have g2:=G5.out.res.f2;have g3:=G5.out.res.f3;have g4:=G5.out.res.f4;have a0:=G5.out.cb.c0;have a1:=G5.out.cb.c1;have a2:=G5.out.cb.c2;have a3:=G5.out.cb.c3;have a4:=G5.out.cb.c4;have b2:=G5.out.cb.f2;have b3:=G5.out.cb.f3;have b4:=G5.out.cb.f4;have hn1:¬ M=w.heap.size:=(by have:=G5.out.far;omega);have hn2:¬ w.heap.size=M:=(by have:=G5.out.far;omega);dsimp only [cmZ] at a0 a1 a2 a3 a4 e0 e1 e2 e3 e4) | (go_at_call 119;refine (HU.out _).mono ?_;rintro e w6 ⟨rfl,rfl⟩))
         refine bodyPost_ret (v:=.tuple #[cmV cmZ,.int .i64 6]) ?_ rfl (HBAD.out _ hg (put5 G5.out.bel _ _ _ _ _))
         rw [results_c2 rfl]
         go_simp
         rfl
        | true =>
         rw [huo,if_pos rfl] at hue
         subst hue
         rw [hr3] at HGO HCM
         rcases tx_cases2 r3 with ⟨hr,ht⟩ | ⟨c,r,hr,hc,ht⟩ | ⟨r,hr,ht⟩
         ·have z0:((bs r3).size:Int)=0:=by rw [hr];rfl
          obtain ⟨S3,hS3⟩:∃ S,bs r3=S:=⟨_,rfl⟩
          have hg:gCz L=6:=by
           unfold gCz
           rw [HGO.out,ht,if_neg (by simp)]
          rw [hS3] at z0 HTM
          clear hr hr3 hS3 e4
          go_wp2_with (first | (go_at_call_of 123 (Value.string ⟨#[112,97,114,101,110,116]⟩);refine (HP.out _).mono ?_;rintro e w3 ⟨rfl,hb3⟩;have G0:=hideIt (HG.out.below hb3)) | (go_at_call_of 123 (Value.string ⟨#[97,117,116,104,111,114]⟩);refine (HA.out _).mono ?_;rintro e w4 ⟨rfl,hb4⟩;have G4:=hideIt (G0.out.below hb4)) | (go_at_call_of 123 (Value.string ⟨#[116,105,109,101]⟩);refine (HTM.out _).mono ?_;rintro e w5 ⟨rfl,hb5⟩;have G5:=hideIt (G4.out.below hb5);have e0:=G5.out.res.c0;have e1:=G5.out.res.c1;have e2:=G5.out.res.c2;have e3:=G5.out.res.c3;have e4:=G5.out.res.c4;have g0:=G5.out.res.f0;have g1:=G5.out.res.f1;have g2:=G5.out.res.f2;have g3:=G5.out.res.f3;have g4:=G5.out.res.f4;have a0:=G5.out.cb.c0;have a1:=G5.out.cb.c1;have a2:=G5.out.cb.c2;have a3:=G5.out.cb.c3;have a4:=G5.out.cb.c4;have b2:=G5.out.cb.f2;have b3:=G5.out.cb.f3;have b4:=G5.out.cb.f4;have hn1:¬ M=w.heap.size:=(by have:=G5.out.far;omega);have hn2:¬ w.heap.size=M:=(by have:=G5.out.far;omega);dsimp only [cmZ] at a0 a1 a2 a3 a4 e0 e1 e2 e3 e4) | (go_at_call 119;refine (HU.out _).mono ?_;rintro e w6 ⟨rfl,rfl⟩))
          refine bodyPost_ret (v:=.tuple #[cmV cmZ,.int .i64 6]) ?_ rfl (HBAD.out _ hg (put5 G5.out.bel _ _ _ _ _))
          rw [results_c2 rfl]
          go_simp
          rfl
         ·have hg:gCz L=6:=by
           unfold gCz
           rw [HGO.out,ht,if_neg (by simp)]
          obtain ⟨S3,hS3,z0,z5⟩:∃ S,bs r3=S∧∃ h:0 < S.size,S[0]'h=c:=⟨bs r3,rfl,by rw [hr,bs_size];simp,by subst hr;rfl⟩
          have z1:(0:Int) < (S3.size:Int):=by omega
          have z3:¬ (S3.size:Int)=0:=by omega
          have z2:((S3.size:Int) == 0)=false:=beq_eq_false_iff_ne.2 z3
          have z4:((c.toNat:Int) != 10)=true:=by
           have h10:(10:UInt8).toNat=10:=rfl
           have:¬ (c.toNat:Int)=10:=fun e=>hc (UInt8.toNat_inj.1 (by omega))
           simpa using this
          rw [hS3] at HTM
          clear hr hr3 hS3 e4
          go_wp2_with (first | (go_at_call_of 123 (Value.string ⟨#[112,97,114,101,110,116]⟩);refine (HP.out _).mono ?_;rintro e w3 ⟨rfl,hb3⟩;have G0:=hideIt (HG.out.below hb3)) | (go_at_call_of 123 (Value.string ⟨#[97,117,116,104,111,114]⟩);refine (HA.out _).mono ?_;rintro e w4 ⟨rfl,hb4⟩;have G4:=hideIt (G0.out.below hb4)) | (go_at_call_of 123 (Value.string ⟨#[116,105,109,101]⟩);refine (HTM.out _).mono ?_;rintro e w5 ⟨rfl,hb5⟩;have G5:=hideIt (G4.out.below hb5);have e0:=G5.out.res.c0;have e1:=G5.out.res.c1;have e2:=G5.out.res.c2;have e3:=G5.out.res.c3;have e4:=G5.out.res.c4;have g0:=G5.out.res.f0;have g1:=G5.out.res.f1;have g2:=G5.out.res.f2;have g3:=G5.out.res.f3;have g4:=G5.out.res.f4;have a0:=G5.out.cb.c0;have a1:=G5.out.cb.c1;have a2:=G5.out.cb.c2;have a3:=G5.out.cb.c3;have a4:=G5.out.cb.c4;have b2:=G5.out.cb.f2;have b3:=G5.out.cb.f3;have b4:=G5.out.cb.f4;have hn1:¬ M=w.heap.size:=(by have:=G5.out.far;omega);have hn2:¬ w.heap.size=M:=(by have:=G5.out.far;omega);dsimp only [cmZ] at a0 a1 a2 a3 a4 e0 e1 e2 e3 e4) | (go_at_call 119;refine (HU.out _).mono ?_;rintro e w6 ⟨rfl,rfl⟩))
          refine bodyPost_ret (v:=.tuple #[cmV cmZ,.int .i64 6]) ?_ rfl (HBAD.out _ hg (put5 G5.out.bel _ _ _ _ _))
          rw [results_c2 rfl]
          go_simp
          rfl
         ·obtain ⟨S3,hS3,z0,z5⟩:∃ S,bs r3=S∧∃ h:0 < S.size,S[0]'h=10:=⟨bs r3,rfl,by rw [hr,bs_size];simp,by subst hr;rfl⟩
          have z6:(bs r3).extract 1 (bs r3).size=bs (txT r3):=by
           rw [bs_extract,bs_size]
           congr 1
           unfold txT
           rw [if_pos ht]
           apply List.take_of_length_le
           simp
          have hX1:(bs (txT r3)).size≤1000000:=by rw [bs_size];exact Nat.le_trans (txT_len _) (by omega)
          have hA1:AT.size≤1000000:=by rw [← hAT,bs_size];omega
          obtain ⟨X,hX⟩:∃ X,bs (txT r3)=X:=⟨_,rfl⟩
          rw [hX] at HCM z6 hX1
          rw [hAT,hun] at HCM
          rw [hS3] at HTM z6
          have z1:(0:Int) < (S3.size:Int):=by omega
          have z3:¬ (S3.size:Int)=0:=by omega
          have z2:((S3.size:Int) == 0)=false:=beq_eq_false_iff_ne.2 z3
          have z7:(1:Int)≤(S3.size:Int):=by omega
          have z8:((S3[0]'z0).toNat:Int)=10:=by rw [z5];rfl
          have HCZ:Hid (gCz L=comE (gCm L)):=hideIt (by
           unfold gCz
           rw [if_pos]
           rw [HGO.out,ho2,ho3,huo,ht,decide_eq_true hT32]
           rfl)
          have HCK:=hideIt (fun (v:Value) (w':World) (hr:SRow w' v ps)=>refcheckCommit_any ⟨T,v,ps,AT,un,X⟩ w' hr hA1 hX1)
          have HCE:Hid (∀ v,comE ⟨T,v,ps,AT,un,X⟩=comE (gCm L)):=hideIt (fun v=>by rw [HCM.out];rfl)
          obtain ⟨z,hz⟩:∃ z,comE (gCm L)=z:=⟨_,rfl⟩
          rw [hz] at HCE HCZ
          unfold cmV at HCK
          simp only at HCK
          obtain ⟨av,cv,hv,-,-,-⟩:=SRow.of_row HG.out.row
          simp only at hv
          subst hv
          clear hr hr3 hS3 hX z5 e3 e4 hz huo hT32
          go_wp2_with (first | (go_at_call_of 123 (Value.string ⟨#[112,97,114,101,110,116]⟩);refine (HP.out _).mono ?_;rintro e w3 ⟨rfl,hb3⟩;have G0:=hideIt (HG.out.below hb3)) | (go_at_call_of 123 (Value.string ⟨#[97,117,116,104,111,114]⟩);refine (HA.out _).mono ?_;rintro e w4 ⟨rfl,hb4⟩;have G4:=hideIt (G0.out.below hb4)) | (go_at_call_of 123 (Value.string ⟨#[116,105,109,101]⟩);refine (HTM.out _).mono ?_;rintro e w5 ⟨rfl,hb5⟩;have G5:=hideIt (G4.out.below hb5);have e0:=G5.out.res.c0;have e1:=G5.out.res.c1;have e2:=G5.out.res.c2;have e3:=G5.out.res.c3;have e4:=G5.out.res.c4;have g0:=G5.out.res.f0;have g1:=G5.out.res.f1;have g2:=G5.out.res.f2;have g3:=G5.out.res.f3;have g4:=G5.out.res.f4;have a0:=G5.out.cb.c0;have a1:=G5.out.cb.c1;have a2:=G5.out.cb.c2;have a3:=G5.out.cb.c3;have a4:=G5.out.cb.c4;have b2:=G5.out.cb.f2;have b3:=G5.out.cb.f3;have b4:=G5.out.cb.f4;have hn1:¬ M=w.heap.size:=(by have:=G5.out.far;omega);have hn2:¬ w.heap.size=M:=(by have:=G5.out.far;omega);dsimp only [cmZ] at a0 a1 a2 a3 a4 e0 e1 e2 e3 e4) | (go_at_call 119;refine (HU.out _).mono ?_;rintro e w6 ⟨rfl,rfl⟩))
          go_region
          have GF:=hideIt (((G5.out.set2 AT).set3 un).set4 X).drew
          by_cases hz0:z=0
          ·subst hz0
           go_wp2_with (first | (go_at_call 125;refine (HCK.out _ _ (SRow.of_row GF.out.row)).mono ?_;rintro e w9 ⟨he9,hb9⟩;rw [HCE.out] at he9;subst he9;have G9:=hideIt (GF.out.below hb9);have d0:=G9.out.cb.c0;have d1:=G9.out.cb.c1;have d2:=G9.out.cb.c2;have d3:=G9.out.cb.c3;have d4:=G9.out.cb.c4;have x0:=G9.out.res.c0;have x1:=G9.out.res.c1;have x2:=G9.out.res.c2;have x3:=G9.out.res.c3;have x4:=G9.out.res.c4;have y0:=G9.out.res.f0;have y1:=G9.out.res.f1;have y2:=G9.out.res.f2;have y3:=G9.out.res.f3;have y4:=G9.out.res.f4;dsimp only [cmZ] at d0 d1 d2 d3 d4 x0 x1 x2 x3 x4))
           refine bodyPost_ret (v:=.tuple #[cmV ⟨T,.slice av ps.length cv,ps,AT,un,X⟩,.int .i64 0]) ?_ rfl ((HTO.out _ _).2 ⟨⟨T,.slice av ps.length cv,ps,AT,un,X⟩,by rw [HCZ.out],SRow.of_row (row_kept G9.out.row (by have:=G9.out.far;omega) (grown5 _ _ _ _ _ _ _)),fun _=>by rw [HCM.out],fun h=>absurd HCZ.out h,put5 G9.out.bel _ _ _ _ _⟩)
           rw [results_c2 rfl]
           go_simp
           rfl
          ·have q1:(z != 0)=true:=by simpa using hz0
           go_wp2_with (first | (go_at_call 125;refine (HCK.out _ _ (SRow.of_row GF.out.row)).mono ?_;rintro e w9 ⟨he9,hb9⟩;rw [HCE.out] at he9;subst he9;have G9:=hideIt (GF.out.below hb9);have d0:=G9.out.cb.c0;have d1:=G9.out.cb.c1;have d2:=G9.out.cb.c2;have d3:=G9.out.cb.c3;have d4:=G9.out.cb.c4;have x0:=G9.out.res.c0;have x1:=G9.out.res.c1;have x2:=G9.out.res.c2;have x3:=G9.out.res.c3;have x4:=G9.out.res.c4;have y0:=G9.out.res.f0;have y1:=G9.out.res.f1;have y2:=G9.out.res.f2;have y3:=G9.out.res.f3;have y4:=G9.out.res.f4;dsimp only [cmZ] at d0 d1 d2 d3 d4 x0 x1 x2 x3 x4))
           refine bodyPost_ret (v:=.tuple #[cmV cmZ,.int .i64 z]) ?_ rfl ((HTO.out _ _).2 ⟨cmZ,by rw [HCZ.out],SRow.nil _,fun h=>absurd (HCZ.out.symm.trans h) hz0,fun _=>rfl,put5 G9.out.bel _ _ _ _ _⟩)
           rw [results_c2 rfl]
           go_simp
           rfl
       ·have u1:((T.size:Int) != 32)=true:=by simp;omega
        have u2:¬ (T.size:Int)=32:=by omega
        have hg:gCz L=6:=by
         unfold gCz
         rw [HGO.out,decide_eq_false hT32,if_neg (by simp)]
        go_wp2_with (first | (go_at_call_of 123 (Value.string ⟨#[112,97,114,101,110,116]⟩);refine (HP.out _).mono ?_;rintro e w3 ⟨rfl,hb3⟩;have G0:=hideIt (HG.out.below hb3)) | (go_at_call_of 123 (Value.string ⟨#[97,117,116,104,111,114]⟩);refine (HA.out _).mono ?_;rintro e w4 ⟨rfl,hb4⟩;have G4:=hideIt (G0.out.below hb4)) | (go_at_call_of 123 (Value.string ⟨#[116,105,109,101]⟩);refine (HTM.out _).mono ?_;rintro e w5 ⟨rfl,hb5⟩;have G5:=hideIt (G4.out.below hb5);have e0:=G5.out.res.c0;have e1:=G5.out.res.c1;have e2:=G5.out.res.c2;have e3:=G5.out.res.c3;have e4:=G5.out.res.c4;have g0:=G5.out.res.f0;have g1:=G5.out.res.f1;have g2:=G5.out.res.f2;have g3:=G5.out.res.f3;have g4:=G5.out.res.f4;have a0:=G5.out.cb.c0;have a1:=G5.out.cb.c1;have a2:=G5.out.cb.c2;have a3:=G5.out.cb.c3;have a4:=G5.out.cb.c4;have b2:=G5.out.cb.f2;have b3:=G5.out.cb.f3;have b4:=G5.out.cb.f4;have hn1:¬ M=w.heap.size:=(by have:=G5.out.far;omega);have hn2:¬ w.heap.size=M:=(by have:=G5.out.far;omega);dsimp only [cmZ] at a0 a1 a2 a3 a4 e0 e1 e2 e3 e4) | (go_at_call 119;refine (HU.out _).mono ?_;rintro e w6 ⟨rfl,rfl⟩))
        refine bodyPost_ret (v:=.tuple #[cmV cmZ,.int .i64 6]) ?_ rfl (HBAD.out _ hg (put5 G5.out.bel _ _ _ _ _))
        rw [results_c2 rfl]
        go_simp
        rfl
end Ob
end Go.Proofs.YtogjlepdejonpaaGreatDoor
namespace Go.Proofs.YtogjlepdejonpaaGreatDoor
namespace Ob
open Go.RowKit Go.Shelf
theorem refK_range (s:ByteArray):refK s=0∨refK s=1∨refK s=2:=by
 unfold refK
 repeat' split
 all_goals simp
set_option maxHeartbeats 1600000 in
set_option maxRecDepth 100000 in
theorem refcheckTag_any (t:Tg) (w:World) (h2:t.nm.size≤100000) (h3:t.tx.size≤1000000) :
  Calls Tryz.prog 126 #[tgV t] w fun e w'=>e=.returned (.int .i64 (tagE t))∧Below w.heap.size w w':=by
 have HNB:=hideIt (TBox.new w 112 t)
 obtain ⟨tgt,kd,nm,tx⟩:=t
 simp only at h2 h3
 unfold tgV
 simp only at HNB ⊢
 have HE:Hid (tagE ⟨tgt,kd,nm,tx⟩=if 1≤kd∧kd≤4 then (if (idB tgt && tagN nm && textB tx)=true then 0 else 6) else 70):=rfl
 have HR:Hid (∀ w,Calls Tryz.prog 161 #[.string (⟨#[116,97,103,115,47]⟩ ++ nm)] w fun e w'=>e=.returned (.int .i64 (refK (bs tagsW ++ nm)))∧Below w.heap.size w w'):=hideIt (fun w=>refref_any _ w (by
  rw [show (⟨#[116,97,103,115,47]⟩:ByteArray)=bs tagsW from rfl,ByteArray.size_append,bs_size];simp [tagsW];omega))
 have HT:=hideIt (fun w=>reftext_any tx w h3)
 have hrk:tagN nm=decide (0 < refK (bs tagsW ++ nm)):=(refK_says (bs tagsW ++ nm)).1
 have hrr:=refK_range (bs tagsW ++ nm)
 have t1:¬ 9223372036854775807 < 5 + nm.size:=by omega
 have HAB:=hideIt (new_below w (.cells #[.string tgt,.int .i64 kd,.string nm,.string tx] 112))
 obtain ⟨k,hk⟩:∃ k,refK (bs tagsW ++ nm)=k:=⟨_,rfl⟩
 obtain ⟨x,hx⟩:∃ x,textB tx=x:=⟨_,rfl⟩
 rw [hk] at HR hrk hrr
 rw [hrk] at HE
 rw [hx] at HT HE
 have HI:Hid (idB tgt=decide (tgt.size=32)):=rfl
 rw [HI.out] at HE
 clear hk hx h2 h3 hrk HI
 by_cases hkd:1≤kd∧kd≤4
 ·rw [if_pos hkd] at HE
  have k1:¬ kd < 1:=by omega
  have k2:¬ 4 < kd:=by omega
  clear hkd
  by_cases hi:tgt.size=32
  ·have i1:(tgt.size:Int)=32:=by omega
   rw [decide_eq_true hi,Bool.true_and] at HE
   by_cases hz:k=0
   ·subst hz
    rw [decide_eq_false (by omega),Bool.false_and,if_neg (by decide)] at HE
    go_enter Tryz.func126,Tryz.ntmps126
    go_wp2_with (first | (go_at_call 161;refine (HR.out _).mono ?_;rintro e w3 ⟨rfl,hb3⟩))
    go_ret
    exact ⟨by rw [HE.out] <;> rfl,below2 HAB.out hb3⟩
   ·have hz1:(k == 0)=false:=by simpa using hz
    rw [decide_eq_true (by omega),Bool.true_and] at HE
    cases x with
    | false =>
     rw [if_neg (by decide)] at HE
     go_enter Tryz.func126,Tryz.ntmps126
     go_wp2_with (first | (go_at_call 161;refine (HR.out _).mono ?_;rintro e w3 ⟨rfl,hb3⟩;have c3:=(HNB.out.below hb3).c3) | (go_at_call 160;refine (HT.out _).mono ?_;rintro e w4 ⟨rfl,rfl⟩))
     go_ret
     exact ⟨by rw [HE.out] <;> rfl,below2 HAB.out hb3⟩
    | true =>
     rw [if_pos rfl] at HE
     go_enter Tryz.func126,Tryz.ntmps126
     go_wp2_with (first | (go_at_call 161;refine (HR.out _).mono ?_;rintro e w3 ⟨rfl,hb3⟩;have c3:=(HNB.out.below hb3).c3) | (go_at_call 160;refine (HT.out _).mono ?_;rintro e w4 ⟨rfl,rfl⟩))
     go_ret
     exact ⟨by rw [HE.out] <;> rfl,below2 HAB.out hb3⟩
  ·have i1:((tgt.size:Int) != 32)=true:=by
    have:(tgt.size:Int)≠32:=by omega
    simpa using this
   have i2:¬ (tgt.size:Int)=32:=by omega
   rw [decide_eq_false hi,Bool.false_and,Bool.false_and,if_neg (by decide)] at HE
   go_enter Tryz.func126,Tryz.ntmps126
   go_wp2_with (first | (go_at_call 161;refine (HR.out _).mono ?_;rintro e w3 ⟨rfl,hb3⟩))
   go_ret
   exact ⟨by rw [HE.out] <;> rfl,HAB.out⟩
 ·rw [if_neg hkd] at HE
  by_cases k1:kd < 1
  ·go_enter Tryz.func126,Tryz.ntmps126
   go_wp2_with fail
   go_ret
   exact ⟨by rw [HE.out] <;> rfl,HAB.out⟩
  ·have k2:4 < kd:=by omega
   go_enter Tryz.func126,Tryz.ntmps126
   go_wp2_with fail
   go_ret
   exact ⟨by rw [HE.out] <;> rfl,HAB.out⟩
end Ob
end Go.Proofs.YtogjlepdejonpaaGreatDoor
namespace Go.Proofs.YtogjlepdejonpaaGreatDoor
namespace Ob
open Go.RowKit Go.Shelf
theorem TBox.set0 {w:World} {N:Nat} {T:TypeId} {t:Tg} (h:TBox w N T t) (s:ByteArray):TBox (w.setCell ⟨N,0,none⟩ (.string s)) N T { t with tgt:=s }:=⟨by simp [World.setCell,h.blk,Array.getElem?_modify]⟩
structure DS (w0:World) (M:Nat) (t:Tg) (w:World):Prop where
 res:TBox w w0.heap.size 112 tgZ
 tb:TBox w M 112 t
 far:w0.heap.size + 1≤M
 bel:Below w0.heap.size w0 w
theorem DS.below {w0 w w':World} {M:Nat} {t:Tg} (h:DS w0 M t w) (hb:Below w.heap.size w w'):DS w0 M t w' :=
 ⟨h.res.below hb,h.tb.below hb,h.far,below2 h.bel hb⟩
theorem DS.put {w0 w w':World} {M:Nat} {t t':Tg} (h:DS w0 M t w) (hg:w.grownBy w' (some M)) (ht:TBox w' M 112 t'):DS w0 M t' w' :=
 ⟨h.res.grown hg (by have:=h.far;omega),ht,h.far,h.bel.grown hg (h.bel.size) (fun k hk=>by have:=h.far;simp at hk;omega)⟩
theorem DS.set0 {w0 w:World} {M:Nat} {t:Tg} (h:DS w0 M t w) (s:ByteArray):DS w0 M { t with tgt:=s } (w.setCell ⟨M,0,none⟩ (.string s)):=h.put (grown_set _ _ _ _) (h.tb.set0 s)
theorem DS.set1 {w0 w:World} {M:Nat} {t:Tg} (h:DS w0 M t w) (k:Int):DS w0 M { t with kd:=k } (w.setCell ⟨M,1,none⟩ (.int .i64 k)):=h.put (grown_set _ _ _ _) (h.tb.set1 k)
theorem DS.set3 {w0 w:World} {M:Nat} {t:Tg} (h:DS w0 M t w) (s:ByteArray):DS w0 M { t with tx:=s } (w.setCell ⟨M,3,none⟩ (.string s)):=h.put (grown_set _ _ _ _) (h.tb.set3 s)
theorem DS.start {w0 w1:World} (hb:Below w0.heap.size w0 w1) (hz:TBox w1 w0.heap.size 112 tgZ) (s:ByteArray) :
  DS w0 w1.heap.size ⟨⟨#[]⟩,0,s,⟨#[]⟩⟩ (w1.alloc (.cells #[.string ⟨#[]⟩,.int .i64 0,.string s,.string ⟨#[]⟩] 112)) :=
 ⟨hz.below (new_below _ _),⟨Cb.alloc_at rfl⟩,hz.lt,below2 hb (new_below _ _)⟩
theorem tx_cases (L:List UInt8):(L=[]∧txO L=false)∨(∃ c r,L=c :: r∧c≠10∧txO L=false)∨(∃ r,L=10 :: r∧txO L=true):=by
 cases L with
 | nil=>exact .inl ⟨rfl,rfl⟩
 | cons c r =>
  by_cases h:c=10
  ·subst h
   exact .inr (.inr ⟨r,rfl,by simp [txO,List.isPrefixOf]⟩)
  ·exact .inr (.inl ⟨c,r,rfl,h,by simp [txO,List.isPrefixOf];exact fun e=>h e.symm⟩)
set_option maxHeartbeats 3200000 in
set_option maxRecDepth 100000 in
theorem refgetTag_any (L:List UInt8) (w:World) (hL:L.length≤100000) :
  Calls Tryz.prog 73 #[.string (bs L)] w fun e w'=>e=.returned (.tuple #[tgV (gT L).1,.int .i64 (gT L).2])∧Below w.heap.size w w':=by
 have HGT:=hideIt (gT_doc L)
 have HL1:=hideIt (fun w=>refline_any objectW L (by omega) (by decide) w)
 have hr1:=lnR_len objectW L
 have hr2:=lnR_len kindW (lnR objectW L)
 have hr3:=lnR_len nameW (lnR kindW (lnR objectW L))
 have ht1:=lnT_len objectW L
 have ht3:=lnT_len nameW (lnR kindW (lnR objectW L))
 have HL2:=hideIt (fun w=>refline_any kindW (lnR objectW L) (by omega) (by decide) w)
 have HL3:=hideIt (fun w=>refline_any nameW (lnR kindW (lnR objectW L)) (by omega) (by decide) w)
 have HID:=hideIt (fun w=>refidl_any (lnT objectW L) (by omega) w)
 have HK:=hideIt (fun (i:Nat) (hi:1≤i∧i≤4) w=>refkind_any (i:Int) (by omega) w)
 have HQ:Hid (∀ i:Nat,1≤i∧i≤4→((bs (kw (i:Int))).toList == (bs (lnT kindW (lnR objectW L))).toList)=decide (kn (lnT kindW (lnR objectW L))=(i:Int))):=hideIt (fun i hi=>by
  rw [bsl_eq]
  exact decide_eq_decide.2 (kw_kn _ i (by omega)))
 have HCT:=hideIt (fun w=>refcheckTag_any (dTt L) w (by show (bs (lnT nameW (lnR kindW (lnR objectW L)))).size≤_;rw [bs_size];omega) (by show (bs ((lnR nameW (lnR kindW (lnR objectW L))).drop 1)).size≤_;rw [bs_size,List.length_drop];omega))
 rw [lnV_eq] at HL1 HL2 HL3
 have kr:=kn_range (lnT kindW (lnR objectW L))
 have hdt:dTt L=⟨unhB (lnT objectW L),kn (lnT kindW (lnR objectW L)),bs (lnT nameW (lnR kindW (lnR objectW L))),bs ((lnR nameW (lnR kindW (lnR objectW L))).drop 1)⟩:=rfl
 obtain ⟨o1,ho1⟩:∃ o,tkO objectW L=o:=⟨_,rfl⟩
 obtain ⟨o2,ho2⟩:∃ o,tkO kindW (lnR objectW L)=o:=⟨_,rfl⟩
 obtain ⟨o3,ho3⟩:∃ o,tkO nameW (lnR kindW (lnR objectW L))=o:=⟨_,rfl⟩
 obtain ⟨r3,hr3e⟩:∃ r,lnR nameW (lnR kindW (lnR objectW L))=r:=⟨_,rfl⟩
 obtain ⟨kk,hkk⟩:∃ k,kn (lnT kindW (lnR objectW L))=k:=⟨_,rfl⟩
 obtain ⟨U,hU⟩:∃ U,unhB (lnT objectW L)=U:=⟨_,rfl⟩
 obtain ⟨io,hio⟩:∃ io,idO (lnT objectW L)=io:=⟨_,rfl⟩
 obtain ⟨A,hA⟩:∃ A,bs (lnT objectW L)=A:=⟨_,rfl⟩
 obtain ⟨B,hB⟩:∃ B,bs (lnT kindW (lnR objectW L))=B:=⟨_,rfl⟩
 obtain ⟨C,hC⟩:∃ C,bs (lnT nameW (lnR kindW (lnR objectW L)))=C:=⟨_,rfl⟩
 obtain ⟨S1,hS1⟩:∃ S,bs (lnR objectW L)=S:=⟨_,rfl⟩
 obtain ⟨S2,hS2⟩:∃ S,bs (lnR kindW (lnR objectW L))=S:=⟨_,rfl⟩
 rw [hU,hkk,hC,hr3e] at hdt
 rw [hdt] at HGT HCT
 rw [ho1,ho2,ho3,hr3e] at HGT
 rw [ho1,hA,hS1] at HL1
 rw [ho2,hB,hS1,hS2] at HL2
 rw [ho3,hC,hS2,hr3e] at HL3
 rw [hA,hU,hio] at HID
 rw [hB,hkk] at HQ
 rw [hkk] at kr
 rw [hr3e] at hr3
 unfold tgV at HCT
 simp only at HCT HGT
 clear hdt ho1 ho2 ho3 hr3e hkk hU hio hA hB hC hS1 hS2
 obtain ⟨S,hS⟩:∃ S,bs L=S:=⟨_,rfl⟩
 rw [hS] at HL1 ⊢
 clear hS
 have HB0:=hideIt (new_below w (.cells #[.string ⟨#[]⟩,.int .i64 0,.string ⟨#[]⟩,.string ⟨#[]⟩] 112))
 have HZ0:=hideIt (TBox.new w 112 tgZ)
 go_enter Tryz.func73,Tryz.ntmps73
 go_wp2_with (first
  | (go_at_call_of 123 (Value.string ⟨#[111,98,106,101,99,116]⟩);refine (HL1.out _).mono ?_;rintro e w1 ⟨rfl,hb1⟩)
  | (go_at_call_of 123 (Value.string ⟨#[107,105,110,100]⟩);refine (HL2.out _).mono ?_;rintro e w2 ⟨rfl,hb2⟩)
  | (go_at_call_of 123 (Value.string ⟨#[110,97,109,101]⟩);refine (HL3.out _).mono ?_;rintro e w3 ⟨rfl,hb3⟩))
 obtain ⟨M,hM⟩:∃ M,w3.heap.size=M:=⟨_,rfl⟩
 have HD:=hideIt (DS.start (w0:=w) (below2 (below2 (below2 HB0.out hb1) hb2) hb3) (((HZ0.out.below hb1).below hb2).below hb3) C)
 rw [hM] at HD ⊢
 clear hM hb1 hb2 hb3 HB0 HZ0 HL1 HL2 HL3
 go_loopw [12] (fun t wr=>∃ i:Nat,1≤i∧i≤5∧t=.int .i64 i∧DS w M ⟨⟨#[]⟩,if kk < (i:Int) then kk else 0,C,⟨#[]⟩⟩ wr) (fun t _=>5 - (intOf t).toNat)
 case atStart=>exact ⟨1,by omega,by omega,rfl,by rw [show (if kk < ((1:Nat):Int) then kk else 0)=0 by split <;> omega];exact HD.out⟩
 case round =>
  obtain ⟨i,hi1,hi5,rfl,hds⟩:=hrel
  have HG:=hideIt hds
  clear hds HD
  by_cases hlt:i < 5
  ·have i1:decide ((i:Int) < 5)=true:=decide_eq_true (by omega)
   have HKI:=hideIt (HK.out i (by omega))
   have hq:=HQ.out i (by omega)
   obtain ⟨kv,hkv⟩:∃ kv,(if kk < (i:Int) then kk else 0)=kv:=⟨_,rfl⟩
   rw [hkv] at HG
   by_cases hki:kk=(i:Int)
   ·rw [decide_eq_true hki] at hq
    go_wp2_with (first | (go_at_call 75;refine (HKI.out _).mono ?_;rintro e w5 ⟨rfl,hb5⟩;have G5:=hideIt (HG.out.below hb5);have c1:=G5.out.tb.c1;have f1:=G5.out.tb.f1))
    go_roundw
    case rel =>
     refine ⟨i + 1,by omega,by omega,by go_num,?_⟩
     rw [if_pos (by omega),hki]
     exact G5.out.set1 _
    case measure=>simp [intOf];omega
   ·rw [decide_eq_false hki] at hq
    go_wp2_with (first | (go_at_call 75;refine (HKI.out _).mono ?_;rintro e w5 ⟨rfl,hb5⟩;have G5:=hideIt (HG.out.below hb5)))
    go_roundw
    case rel =>
     refine ⟨i + 1,by omega,by omega,by go_num,?_⟩
     rw [show (if kk < ((i + 1:Nat):Int) then kk else 0)=kv by rw [← hkv];split <;> split <;> omega]
     exact G5.out
    case measure=>simp [intOf];omega
  ·obtain rfl:i=5:=by omega
   have i1:decide (((5:Nat):Int) < 5)=false:=by decide
   rw [if_pos (by omega)] at HG
   cases o1 with
   | false =>
    have hg:gT L=(tgZ,6):=by rw [HGT.out];rw [if_neg (by simp_all)]
    go_wp2_with (first | (go_at_call 124;refine (HID.out _).mono ?_;rintro e w6 ⟨rfl,hb6⟩;have G6:=hideIt (HG.out.below hb6);have c0:=G6.out.tb.c0;have f0:=G6.out.tb.f0;have c1:=G6.out.tb.c1;have c2:=G6.out.tb.c2;have c3:=G6.out.tb.c3;have f3:=G6.out.tb.f3;have e0:=G6.out.res.c0;have e1:=G6.out.res.c1;have e2:=G6.out.res.c2;have e3:=G6.out.res.c3;have g0:=G6.out.res.f0;have g1:=G6.out.res.f1;have g2:=G6.out.res.f2;have g3:=G6.out.res.f3;have hn1:¬ M=w.heap.size:=(by have:=G6.out.far;omega);have hn2:¬ w.heap.size=M:=(by have:=G6.out.far;omega);dsimp only [tgZ] at c0 c1 c2 c3 e0 e1 e2 e3))
    refine bodyPost_ret (v:=.tuple #[tgV tgZ,.int .i64 6]) ?_ rfl ⟨by rw [hg],?_⟩
    ·rw [results_c2 rfl]
     go_simp
     rfl
    ·exact put4 (G6.out.set0 _).bel _ _ _ _
   | true =>
    cases o2 with
    | false =>
     have hg:gT L=(tgZ,6):=by rw [HGT.out];rw [if_neg (by simp_all)]
     go_wp2_with (first | (go_at_call 124;refine (HID.out _).mono ?_;rintro e w6 ⟨rfl,hb6⟩;have G6:=hideIt (HG.out.below hb6);have c0:=G6.out.tb.c0;have f0:=G6.out.tb.f0;have c1:=G6.out.tb.c1;have c2:=G6.out.tb.c2;have c3:=G6.out.tb.c3;have f3:=G6.out.tb.f3;have e0:=G6.out.res.c0;have e1:=G6.out.res.c1;have e2:=G6.out.res.c2;have e3:=G6.out.res.c3;have g0:=G6.out.res.f0;have g1:=G6.out.res.f1;have g2:=G6.out.res.f2;have g3:=G6.out.res.f3;have hn1:¬ M=w.heap.size:=(by have:=G6.out.far;omega);have hn2:¬ w.heap.size=M:=(by have:=G6.out.far;omega);dsimp only [tgZ] at c0 c1 c2 c3 e0 e1 e2 e3))
     refine bodyPost_ret (v:=.tuple #[tgV tgZ,.int .i64 6]) ?_ rfl ⟨by rw [hg],?_⟩
     ·rw [results_c2 rfl]
      go_simp
      rfl
     ·exact put4 (G6.out.set0 _).bel _ _ _ _
    | true =>
     cases o3 with
     | false =>
      have hg:gT L=(tgZ,6):=by rw [HGT.out];rw [if_neg (by simp_all)]
      go_wp2_with (first | (go_at_call 124;refine (HID.out _).mono ?_;rintro e w6 ⟨rfl,hb6⟩;have G6:=hideIt (HG.out.below hb6);have c0:=G6.out.tb.c0;have f0:=G6.out.tb.f0;have c1:=G6.out.tb.c1;have c2:=G6.out.tb.c2;have c3:=G6.out.tb.c3;have f3:=G6.out.tb.f3;have e0:=G6.out.res.c0;have e1:=G6.out.res.c1;have e2:=G6.out.res.c2;have e3:=G6.out.res.c3;have g0:=G6.out.res.f0;have g1:=G6.out.res.f1;have g2:=G6.out.res.f2;have g3:=G6.out.res.f3;have hn1:¬ M=w.heap.size:=(by have:=G6.out.far;omega);have hn2:¬ w.heap.size=M:=(by have:=G6.out.far;omega);dsimp only [tgZ] at c0 c1 c2 c3 e0 e1 e2 e3))
      refine bodyPost_ret (v:=.tuple #[tgV tgZ,.int .i64 6]) ?_ rfl ⟨by rw [hg],?_⟩
      ·rw [results_c2 rfl]
       go_simp
       rfl
      ·exact put4 (G6.out.set0 _).bel _ _ _ _
     | true =>
      rcases tx_cases r3 with ⟨hr,ht⟩ | ⟨c,r,hr,hc,ht⟩ | ⟨r,hr,ht⟩
      ·rw [ht] at HGT
       have z0:((bs r3).size:Int)=0:=by rw [hr];rfl
       obtain ⟨S3,hS3⟩:∃ S,bs r3=S:=⟨_,rfl⟩
       rw [hS3] at z0 ⊢
       clear hr hr3 hS3
       have hg:gT L=(tgZ,6):=by rw [HGT.out];rw [if_neg (by simp_all)]
       go_wp2_with (first | (go_at_call 124;refine (HID.out _).mono ?_;rintro e w6 ⟨rfl,hb6⟩;have G6:=hideIt (HG.out.below hb6);have c0:=G6.out.tb.c0;have f0:=G6.out.tb.f0;have c1:=G6.out.tb.c1;have c2:=G6.out.tb.c2;have c3:=G6.out.tb.c3;have f3:=G6.out.tb.f3;have e0:=G6.out.res.c0;have e1:=G6.out.res.c1;have e2:=G6.out.res.c2;have e3:=G6.out.res.c3;have g0:=G6.out.res.f0;have g1:=G6.out.res.f1;have g2:=G6.out.res.f2;have g3:=G6.out.res.f3;have hn1:¬ M=w.heap.size:=(by have:=G6.out.far;omega);have hn2:¬ w.heap.size=M:=(by have:=G6.out.far;omega);dsimp only [tgZ] at c0 c1 c2 c3 e0 e1 e2 e3))
       refine bodyPost_ret (v:=.tuple #[tgV tgZ,.int .i64 6]) ?_ rfl ⟨by rw [hg],?_⟩
       ·rw [results_c2 rfl]
        go_simp
        rfl
       ·exact put4 (G6.out.set0 _).bel _ _ _ _
      ·rw [ht] at HGT
       obtain ⟨S3,hS3,z0,z5⟩:∃ S,bs r3=S∧∃ h:0 < S.size,S[0]'h=c:=⟨bs r3,rfl,by rw [hr,bs_size];simp,by subst hr;rfl⟩
       have z1:(0:Int) < (S3.size:Int):=by omega
       have z3:¬ (S3.size:Int)=0:=by omega
       have z2:((S3.size:Int) == 0)=false:=beq_eq_false_iff_ne.2 z3
       have z4:((c.toNat:Int) != 10)=true:=by
        have h10:(10:UInt8).toNat=10:=rfl
        have:¬ (c.toNat:Int)=10:=fun e=>hc (UInt8.toNat_inj.1 (by omega))
        simpa using this
       rw [hS3]
       clear hr hr3 hS3
       have hg:gT L=(tgZ,6):=by rw [HGT.out];rw [if_neg (by simp_all)]
       go_wp2_with (first | (go_at_call 124;refine (HID.out _).mono ?_;rintro e w6 ⟨rfl,hb6⟩;have G6:=hideIt (HG.out.below hb6);have c0:=G6.out.tb.c0;have f0:=G6.out.tb.f0;have c1:=G6.out.tb.c1;have c2:=G6.out.tb.c2;have c3:=G6.out.tb.c3;have f3:=G6.out.tb.f3;have e0:=G6.out.res.c0;have e1:=G6.out.res.c1;have e2:=G6.out.res.c2;have e3:=G6.out.res.c3;have g0:=G6.out.res.f0;have g1:=G6.out.res.f1;have g2:=G6.out.res.f2;have g3:=G6.out.res.f3;have hn1:¬ M=w.heap.size:=(by have:=G6.out.far;omega);have hn2:¬ w.heap.size=M:=(by have:=G6.out.far;omega);dsimp only [tgZ] at c0 c1 c2 c3 e0 e1 e2 e3))
       refine bodyPost_ret (v:=.tuple #[tgV tgZ,.int .i64 6]) ?_ rfl ⟨by rw [hg],?_⟩
       ·rw [results_c2 rfl]
        go_simp
        rfl
       ·exact put4 (G6.out.set0 _).bel _ _ _ _
      ·rw [ht] at HGT
       obtain ⟨S3,hS3,z0,z5⟩:∃ S,bs r3=S∧∃ h:0 < S.size,S[0]'h=10:=⟨bs r3,rfl,by rw [hr,bs_size];simp,by subst hr;rfl⟩
       have z6:(bs r3).extract 1 (bs r3).size=bs (r3.drop 1):=by
        rw [bs_extract,bs_size]
        congr 1
        apply List.take_of_length_le
        simp
       obtain ⟨X,hX⟩:∃ X,bs (r3.drop 1)=X:=⟨_,rfl⟩
       rw [hX] at HGT HCT z6
       rw [hS3] at z6 ⊢
       have z1:(0:Int) < (S3.size:Int):=by omega
       have z3:¬ (S3.size:Int)=0:=by omega
       have z2:((S3.size:Int) == 0)=false:=beq_eq_false_iff_ne.2 z3
       have z7:(1:Int)≤(S3.size:Int):=by omega
       have z8:((S3[0]'z0).toNat:Int)=10:=by rw [z5];rfl
       clear hr hr3 hS3 hX z5
       by_cases hk0:kk=0
       ·subst hk0
        have k1:((0:Int) == 0)=true:=rfl
        have hg:gT L=(tgZ,6):=by rw [HGT.out];rw [if_neg (by simp_all)]
        go_wp2_with (first | (go_at_call 124;refine (HID.out _).mono ?_;rintro e w6 ⟨rfl,hb6⟩;have G6:=hideIt (HG.out.below hb6);have c0:=G6.out.tb.c0;have f0:=G6.out.tb.f0;have c1:=G6.out.tb.c1;have c2:=G6.out.tb.c2;have c3:=G6.out.tb.c3;have f3:=G6.out.tb.f3;have e0:=G6.out.res.c0;have e1:=G6.out.res.c1;have e2:=G6.out.res.c2;have e3:=G6.out.res.c3;have g0:=G6.out.res.f0;have g1:=G6.out.res.f1;have g2:=G6.out.res.f2;have g3:=G6.out.res.f3;have hn1:¬ M=w.heap.size:=(by have:=G6.out.far;omega);have hn2:¬ w.heap.size=M:=(by have:=G6.out.far;omega);dsimp only [tgZ] at c0 c1 c2 c3 e0 e1 e2 e3))
        refine bodyPost_ret (v:=.tuple #[tgV tgZ,.int .i64 6]) ?_ rfl ⟨by rw [hg],?_⟩
        ·rw [results_c2 rfl]
         go_simp
         rfl
        ·exact put4 (G6.out.set0 _).bel _ _ _ _
       ·have k1:(kk == 0)=false:=by simpa using hk0
        by_cases hU:U.size=32
        ·have u1:((U.size:Int) != 32)=false:=by simp;omega
         have u2:(U.size:Int)=32:=by omega
         rw [if_pos (by simp_all)] at HGT
         obtain ⟨z,hz⟩:∃ z,tagE ⟨U,kk,C,X⟩=z:=⟨_,rfl⟩
         rw [hz] at HCT HGT
         clear hz
         by_cases hz0:z=0
         ·subst hz0
          rw [if_pos rfl] at HGT
          go_wp2_with (first | (go_at_call 124;refine (HID.out _).mono ?_;rintro e w6 ⟨rfl,hb6⟩;have G6:=hideIt (HG.out.below hb6);have c0:=G6.out.tb.c0;have f0:=G6.out.tb.f0;have c1:=G6.out.tb.c1;have c2:=G6.out.tb.c2;have c3:=G6.out.tb.c3;have f3:=G6.out.tb.f3;have e0:=G6.out.res.c0;have e1:=G6.out.res.c1;have e2:=G6.out.res.c2;have e3:=G6.out.res.c3;have g0:=G6.out.res.f0;have g1:=G6.out.res.f1;have g2:=G6.out.res.f2;have g3:=G6.out.res.f3;have hn1:¬ M=w.heap.size:=(by have:=G6.out.far;omega);have hn2:¬ w.heap.size=M:=(by have:=G6.out.far;omega);dsimp only [tgZ] at c0 c1 c2 c3 e0 e1 e2 e3) | (go_at_call 126;refine (HCT.out _).mono ?_;rintro e w7 ⟨rfl,hb7⟩;have G7:=hideIt (((G6.out.set0 _).set3 _).below hb7);have d0:=G7.out.tb.c0;have d1:=G7.out.tb.c1;have d2:=G7.out.tb.c2;have d3:=G7.out.tb.c3;have x0:=G7.out.res.c0;have x1:=G7.out.res.c1;have x2:=G7.out.res.c2;have x3:=G7.out.res.c3;have y0:=G7.out.res.f0;have y1:=G7.out.res.f1;have y2:=G7.out.res.f2;have y3:=G7.out.res.f3;dsimp only [tgZ] at d0 d1 d2 d3 x0 x1 x2 x3))
          refine bodyPost_ret (v:=.tuple #[tgV ⟨U,kk,C,X⟩,.int .i64 0]) ?_ rfl ⟨by rw [HGT.out],?_⟩
          ·rw [results_c2 rfl]
           go_simp
           rfl
          ·exact put4 G7.out.bel _ _ _ _
         ·have q1:(z != 0)=true:=by simpa using hz0
          rw [if_neg hz0] at HGT
          go_wp2_with (first | (go_at_call 124;refine (HID.out _).mono ?_;rintro e w6 ⟨rfl,hb6⟩;have G6:=hideIt (HG.out.below hb6);have c0:=G6.out.tb.c0;have f0:=G6.out.tb.f0;have c1:=G6.out.tb.c1;have c2:=G6.out.tb.c2;have c3:=G6.out.tb.c3;have f3:=G6.out.tb.f3;have e0:=G6.out.res.c0;have e1:=G6.out.res.c1;have e2:=G6.out.res.c2;have e3:=G6.out.res.c3;have g0:=G6.out.res.f0;have g1:=G6.out.res.f1;have g2:=G6.out.res.f2;have g3:=G6.out.res.f3;have hn1:¬ M=w.heap.size:=(by have:=G6.out.far;omega);have hn2:¬ w.heap.size=M:=(by have:=G6.out.far;omega);dsimp only [tgZ] at c0 c1 c2 c3 e0 e1 e2 e3) | (go_at_call 126;refine (HCT.out _).mono ?_;rintro e w7 ⟨rfl,hb7⟩;have G7:=hideIt (((G6.out.set0 _).set3 _).below hb7);have d0:=G7.out.tb.c0;have d1:=G7.out.tb.c1;have d2:=G7.out.tb.c2;have d3:=G7.out.tb.c3;have x0:=G7.out.res.c0;have x1:=G7.out.res.c1;have x2:=G7.out.res.c2;have x3:=G7.out.res.c3;have y0:=G7.out.res.f0;have y1:=G7.out.res.f1;have y2:=G7.out.res.f2;have y3:=G7.out.res.f3;dsimp only [tgZ] at d0 d1 d2 d3 x0 x1 x2 x3))
          refine bodyPost_ret (v:=.tuple #[tgV tgZ,.int .i64 z]) ?_ rfl ⟨by rw [HGT.out],?_⟩
          ·rw [results_c2 rfl]
           go_simp
           rfl
          ·exact put4 G7.out.bel _ _ _ _
        ·have u1:((U.size:Int) != 32)=true:=by simp;omega
         have u2:¬ (U.size:Int)=32:=by omega
         have hg:gT L=(tgZ,6):=by rw [HGT.out];rw [if_neg (by simp_all)]
         go_wp2_with (first | (go_at_call 124;refine (HID.out _).mono ?_;rintro e w6 ⟨rfl,hb6⟩;have G6:=hideIt (HG.out.below hb6);have c0:=G6.out.tb.c0;have f0:=G6.out.tb.f0;have c1:=G6.out.tb.c1;have c2:=G6.out.tb.c2;have c3:=G6.out.tb.c3;have f3:=G6.out.tb.f3;have e0:=G6.out.res.c0;have e1:=G6.out.res.c1;have e2:=G6.out.res.c2;have e3:=G6.out.res.c3;have g0:=G6.out.res.f0;have g1:=G6.out.res.f1;have g2:=G6.out.res.f2;have g3:=G6.out.res.f3;have hn1:¬ M=w.heap.size:=(by have:=G6.out.far;omega);have hn2:¬ w.heap.size=M:=(by have:=G6.out.far;omega);dsimp only [tgZ] at c0 c1 c2 c3 e0 e1 e2 e3))
         refine bodyPost_ret (v:=.tuple #[tgV tgZ,.int .i64 6]) ?_ rfl ⟨by rw [hg],?_⟩
         ·rw [results_c2 rfl]
          go_simp
          rfl
         ·exact put4 (G6.out.set0 _).bel _ _ _ _
end Ob
end Go.Proofs.YtogjlepdejonpaaGreatDoor
namespace Go.Proofs.YtogjlepdejonpaaGreatDoor
open Go.RowKit Go.Shelf
theorem bl_irrefl:∀ x:List UInt8,Op.bytesLess x x=false
 | []=>rfl
 | a :: x=>by simp [Op.bytesLess,bl_irrefl x]
theorem bl_trans:∀ x y z:List UInt8,Op.bytesLess x y=true→Op.bytesLess y z=true→Op.bytesLess x z=true
 | _,_,[],_,h=>by simp [Op.bytesLess] at h
 | _,[],_ :: _,h,_=>by simp [Op.bytesLess] at h
 | [],_ :: _,_ :: _,_,_=>rfl
 | a :: x,b :: y,c :: z,h1,h2=>by
  simp only [Op.bytesLess,Bool.or_eq_true,decide_eq_true_eq,Bool.and_eq_true,beq_iff_eq] at h1 h2 ⊢
  rcases h1 with h1 | ⟨rfl,h1⟩
  ·rcases h2 with h2 | ⟨rfl,h2⟩
   ·exact .inl (UInt8.lt_trans h1 h2)
   ·exact .inl h1
  ·rcases h2 with h2 | ⟨rfl,h2⟩
   ·exact .inl h2
   ·exact .inr ⟨rfl,bl_trans x y z h1 h2⟩
theorem bl_total:∀ x y:List UInt8,Op.bytesLess x y=false→Op.bytesLess y x=false→x=y
 | [],[],_,_=>rfl
 | [],_ :: _,h,_=>by simp [Op.bytesLess] at h
 | _ :: _,[],_,h=>by simp [Op.bytesLess] at h
 | a :: x,b :: y,h1,h2=>by
  simp only [Op.bytesLess,Bool.or_eq_false_iff,decide_eq_false_iff_not,Bool.and_eq_false_iff,beq_eq_false_iff_ne,ne_eq] at h1 h2
  have hab:a=b:=by
   apply UInt8.toNat_inj.1
   have h3:=h1.1
   have h4:=h2.1
   rw [UInt8.lt_iff_toNat_lt] at h3 h4
   omega
  subst hab
  rw [bl_total x y (by rcases h1.2 with h | h;exact absurd rfl h;exact h) (by rcases h2.2 with h | h;exact absurd rfl h;exact h)]
theorem leq_eq (a b:List UInt8):(Op.bytesLess a b || a == b)=!Op.bytesLess b a:=by
 cases h1:Op.bytesLess b a with
 | true =>
  have h2:Op.bytesLess a b=false:=by
   cases h:Op.bytesLess a b with
   | false=>rfl
   | true=>have:=bl_trans _ _ _ h h1;rw [bl_irrefl] at this;cases this
  have h3:(a == b)=false:=by
   cases h:a == b with
   | false=>rfl
   | true=>have:=beq_iff_eq.1 h;subst this;rw [bl_irrefl] at h1;cases h1
  rw [h2,h3];rfl
 | false =>
  cases h:Op.bytesLess a b with
  | true=>rfl
  | false=>have:=bl_total _ _ h h1;subst this;simp
set_option maxHeartbeats 1600000 in
set_option maxRecDepth 100000 in
theorem refcheck_any (v:Value) (l:List En) (w:World) (h:ERow w v l) (hs:∀ x ∈ l,x.nm.size≤maxLen):Calls Tryz.prog 122 #[v] w fun e w'=>e=.returned (.int .i64 (chk l))∧Below w.heap.size w w':=by
 obtain ⟨a,c,rfl,hlc,hcm,hrow⟩:=h
 have HR:=hideIt hrow
 have HSZ:=hideIt hs
 have HCK:Hid (chk l=if 256 < l.length then 3 else chkF none l):=rfl
 obtain ⟨n,hn⟩:∃ n,l.length=n:=⟨_,rfl⟩
 rw [hn] at HCK hlc ⊢
 have HN:=hideIt hn
 clear hrow hs
 by_cases hbig:256 < n
 ·have d1:decide ((256:Int) < (n:Int))=true:=decide_eq_true (by omega)
  have i1:(256:Int) < (n:Int):=by omega
  go_enter Tryz.func122,Tryz.ntmps122
  go_wp2
  go_ret
  exact ⟨by rw [HCK.out,if_pos hbig];rfl,Below.refl _ _⟩
 ·have d1:decide ((256:Int) < (n:Int))=false:=decide_eq_false (by omega)
  have i1:¬ (256:Int) < (n:Int):=by omega
  have HCF:Hid (chk l=chkF none l):=hideIt (by rw [HCK.out,if_neg hbig])
  clear HCK
  have HE:=hideIt (refname_any)
  go_enter Tryz.func122,Tryz.ntmps122
  go_wp2
  go_loopw [3] (fun t wr=>∃ i:Nat,i≤n∧t=.int .i64 i∧chkF (before l i) (l.drop i)=chk l∧Below w.heap.size w wr) (fun t _=>n - (intOf t).toNat)
  case atStart=>exact ⟨0,by omega,rfl,by rw [HCF.out];rfl,Below.refl _ _⟩
  case round =>
   obtain ⟨i,hi,rfl,hck,hb⟩:=hrel
   by_cases hlt:i < n
   ·have hid:decide ((i:Int) < (n:Int))=true:=decide_eq_true (by omega)
    have i2:(i:Int) < (n:Int):=by omega
    obtain ⟨b,o,rfl,hcells⟩:=HR.out (by rw [HN.out];omega)
    obtain ⟨x,hxi⟩:∃ x,l[i]? = some x:=⟨l[i]'(by rw [HN.out];exact hlt),by simp⟩
    have hcr:=hcells.below hb
    obtain ⟨c0,c1,c2⟩:=hcr.2 i x hxi
    have HB:=hideIt hb
    have HCA:=hideIt hcr
    have HST:=hideIt (chk_step l i x hxi)
    have HE2:=hideIt (HE.out x.nm wr (HSZ.out x (List.mem_of_getElem? hxi)))
    have HC1:Hid (chk1 x=if Lb.nameB x.nm=false then 50 else if ¬ (1≤x.md∧x.md≤3) then 60 else if x.ids.size≠32 then 6 else 0):=rfl
    have HCK2:=hideIt hck
    clear hcells hcr hb hck
    obtain ⟨nb,hnb⟩:∃ nb,Lb.nameB x.nm=nb:=⟨_,rfl⟩
    rw [hnb] at HE2 HC1
    obtain ⟨md,hmd⟩:∃ md,x.md=md:=⟨_,rfl⟩
    obtain ⟨k,hk⟩:∃ k:Int,(x.ids.size:Int)=k:=⟨_,rfl⟩
    rw [hmd] at HC1 c1
    have HK:=hideIt hk
    cases nb with
    | false =>
     have HZ:Hid (chk l=50):=hideIt (by rw [← HCK2.out,HST.out,HC1.out];simp)
     go_wp2_with (first | (go_at_call 157;refine HE2.out.mono ?_;rintro e w1 ⟨rfl,hw1⟩;obtain rfl:=hw1.symm))
     go_ret
     exact ⟨by rw [HZ.out];rfl,HB.out⟩
    | true =>
     by_cases hm1:md < 1
     ·have e1:decide (md < 1)=true:=decide_eq_true hm1
      have HZ:Hid (chk l=60):=hideIt (by rw [← HCK2.out,HST.out,HC1.out];simp;omega)
      go_wp2_with (first | (go_at_call 157;refine HE2.out.mono ?_;rintro e w1 ⟨rfl,hw1⟩;obtain rfl:=hw1.symm))
      go_ret
      exact ⟨by rw [HZ.out];rfl,HB.out⟩
     ·have e1:decide (md < 1)=false:=decide_eq_false hm1
      have g1:1≤md:=by omega
      by_cases hm2:3 < md
      ·have e2:decide ((3:Int) < md)=true:=decide_eq_true hm2
       have HZ:Hid (chk l=60):=hideIt (by rw [← HCK2.out,HST.out,HC1.out];simp;omega)
       go_wp2_with (first | (go_at_call 157;refine HE2.out.mono ?_;rintro e w1 ⟨rfl,hw1⟩;obtain rfl:=hw1.symm))
       go_ret
       exact ⟨by rw [HZ.out];rfl,HB.out⟩
      ·have e2:decide ((3:Int) < md)=false:=decide_eq_false hm2
       have g2:md≤3:=by omega
       by_cases hk32:k=32
       ·have HZ1:Hid (chk1 x=0):=hideIt (by
         rw [HC1.out]
         have:=HK.out
         simp
         omega)
        have HST1:Hid ((if stuck (before l i) x=true then 61 else chkF (before l (i + 1)) (l.drop (i + 1)))=chk l):=hideIt (by
         rw [← HCK2.out,HST.out,HZ1.out]
         simp)
        have k1:(k == 32)=true:=by simpa using hk32
        clear HZ1 HST HC1 HCK2
        subst hk32
        by_cases h0:i=0
        ·have n0:¬ (0:Int) < (i:Int):=by omega
         have n1:decide ((0:Int) < (i:Int))=false:=decide_eq_false n0
         have n2:¬ 0 < i:=by omega
         have HST2:Hid (chkF (before l (i + 1)) (l.drop (i + 1))=chk l):=hideIt (by
          rw [← HST1.out,if_neg]
          subst h0
          simp [stuck,before])
         clear h0
         go_wp2_with (first | (go_at_call 157;refine HE2.out.mono ?_;rintro e w1 ⟨rfl,hw1⟩;obtain rfl:=hw1.symm))
         go_quiet (fail)
         go_wp2
         go_roundw
         case rel=>exact ⟨i + 1,by omega,by go_num,HST2.out,below2 HB.out (below_drewN _ _)⟩
         case measure=>simp [intOf];omega
        ·obtain ⟨j,hj⟩:∃ j,i=j + 1:=⟨i - 1,by omega⟩
         have n0:(0:Int) < (i:Int):=by omega
         have n1:decide ((0:Int) < (i:Int))=true:=decide_eq_true n0
         have n2:0 < i:=by omega
         have j1:(i:Int) - 1=(j:Int):=by omega
         have j2:(j:Int) < (n:Int):=by omega
         have j3:j < n:=by omega
         obtain ⟨y,hyj⟩:∃ y,l[j]? = some y:=⟨l[j]'(by rw [HN.out];exact j3),by simp⟩
         obtain ⟨y0,_,_⟩:=HCA.out.2 j y hyj
         obtain ⟨ls,hls⟩:∃ ls,Op.bytesLess y.nm.toList x.nm.toList=ls:=⟨_,rfl⟩
         have hle:(Op.bytesLess x.nm.toList y.nm.toList || x.nm.toList == y.nm.toList)=!ls:=by rw [leq_eq,hls]
         have HST2:Hid ((if ls=false then 61 else chkF (before l (i + 1)) (l.drop (i + 1)))=chk l):=hideIt (by
          rw [← HST1.out,stuck_at hj hyj hls]
          cases ls <;> simp)
         obtain ⟨z1,hz1⟩:∃ z1,Op.bytesLess x.nm.toList y.nm.toList=z1:=⟨_,rfl⟩
         obtain ⟨z2,hz2⟩:∃ z2,(x.nm.toList == y.nm.toList)=z2:=⟨_,rfl⟩
         rw [hz1,hz2] at hle
         have HLE:=hideIt hle
         clear h0 hj hyj hls hle
         by_cases hzz:z1=false∧z2=false
         ·obtain ⟨rfl,rfl⟩:=hzz
          have HST3:Hid (chkF (before l (i + 1)) (l.drop (i + 1))=chk l):=hideIt (by
           rw [← HST2.out,if_neg]
           have:=HLE.out
           cases ls <;> simp at this <;> simp)
          clear HLE HST2
          go_wp2_with (first | (go_at_call 157;refine HE2.out.mono ?_;rintro e w1 ⟨rfl,hw1⟩;obtain rfl:=hw1.symm))
          go_quiet (fail)
          go_wp2
          go_roundw
          case rel=>exact ⟨i + 1,by omega,by go_num,HST3.out,below2 HB.out (below_drewN _ _)⟩
          case measure=>simp [intOf];omega
         ·have HST3:Hid (chk l=61):=hideIt (by
           rw [← HST2.out,if_pos]
           have:=HLE.out
           cases ls <;> cases z1 <;> cases z2 <;> simp_all)
          clear HST2
          cases z1 <;> cases z2
          ·exact absurd ⟨rfl,rfl⟩ hzz
          all_goals clear hzz HLE
          all_goals go_wp2_with (first | (go_at_call 157;refine HE2.out.mono ?_;rintro e w1 ⟨rfl,hw1⟩;obtain rfl:=hw1.symm))
          all_goals go_quiet (fail)
          all_goals go_wp2
          all_goals go_ret
          all_goals exact ⟨by rw [HST3.out];rfl,below2 HB.out (below_drewN _ _)⟩
       ·have k1:(k == 32)=false:=by simpa using hk32
        have HZ:Hid (chk l=6):=hideIt (by
         rw [← HCK2.out,HST.out,HC1.out]
         have:=HK.out
         have h32:¬ x.ids.size=32:=by omega
         simp [h32]
         omega)
        go_wp2_with (first | (go_at_call 157;refine HE2.out.mono ?_;rintro e w1 ⟨rfl,hw1⟩;obtain rfl:=hw1.symm))
        go_ret
        exact ⟨by rw [HZ.out];rfl,HB.out⟩
   ·have hid:decide ((i:Int) < (n:Int))=false:=decide_eq_false (by omega)
    obtain rfl:i=n:=by omega
    have HB:=hideIt hb
    have HCK2:=hideIt hck
    clear hb hck
    go_wp2
    go_ret
    refine ⟨?_,HB.out⟩
    rw [← HCK2.out,← HN.out,chk_end]
    rfl
end Go.Proofs.YtogjlepdejonpaaGreatDoor
namespace Go.Proofs.YtogjlepdejonpaaGreatDoor
open Go.RowKit Go.Shelf
theorem bytes_ext {a b:ByteArray} (h:a.data.toList=b.data.toList):a=b:=ByteArray.ext (Array.toList_inj.1 h)
theorem infoR:(Tryz.prog.info? 104).map (fun i=>(i.zero,i.size,i.bytes))=some (some (.agg #[.string ⟨#[]⟩,.int .i64 0,.string ⟨#[]⟩]),3,40):=by kernel_rfl
set_option maxHeartbeats 800000 in
set_option maxRecDepth 100000 in
theorem refmode_any (m:Int) (h:1≤m∧m≤3) (w:World):Calls Tryz.prog 121 #[.int .i64 m] w fun e w'=>e=.returned (.string (bs (word m)))∧Below w.heap.size w w':=by
 rcases (by omega:m=1∨m=2∨m=3) with rfl | rfl | rfl
 all_goals go_enter Tryz.func121,Tryz.ntmps121
 all_goals go_wp2
 all_goals go_ret
 all_goals exact ⟨rfl,(Below.refl _ _).alloc (Nat.le_refl _) _⟩
def zp (L:List UInt8):Int:=match cut0 L with
 | none=>-1
 | some p=>(p.1.length:Nat)
theorem zp_at (L:List UInt8) (i:Nat) (h:∀ j,j < i→L[j]?≠some 0) (h0:L[i]? = some 0):zp L=(i:Nat):=by
 have e:L=L.take i ++ 0 :: L.drop (i + 1):=by
  obtain ⟨hl,hv⟩:=List.getElem?_eq_some_iff.1 h0
  conv=>lhs;rw [← List.take_append_drop i L,List.drop_eq_getElem_cons hl,hv]
 have hn:(0:UInt8) ∉ L.take i:=by
  intro hm
  obtain ⟨j,hj⟩:=List.mem_iff_getElem?.1 hm
  rw [List.getElem?_take] at hj
  split at hj
  ·exact h j (by assumption) hj
  ·cases hj
 unfold zp
 rw [e,cut0_mk _ _ hn]
 have hl:=(List.getElem?_eq_some_iff.1 h0).1
 simp
 omega
theorem zp_none (L:List UInt8) (h:∀ j,j < L.length→L[j]?≠some 0):zp L=-1:=by
 have hn:(0:UInt8) ∉ L:=by
  intro hm
  obtain ⟨j,hj⟩:=List.mem_iff_getElem?.1 hm
  exact h j (List.getElem?_eq_some_iff.1 hj).1 hj
 unfold zp
 rw [(cut0_none L).2 hn]
set_option maxHeartbeats 800000 in
set_option maxRecDepth 100000 in
theorem index_any (L:List UInt8) (hL:L.length≤1000000) (w:World):Calls Tryz.prog 120 #[.string (bs L),.int .u8 0] w fun e w'=>e=.returned (.int .i64 (zp L))∧w'=w:=by
 obtain ⟨s,hs⟩:∃ s,bs L=s:=⟨_,rfl⟩
 have hd:s.data.toList=L:=by rw [← hs,bs_list]
 have hsz:s.size=L.length:=by rw [← hs,bs_size]
 obtain ⟨n,hnn⟩:∃ n,s.size=n:=⟨_,rfl⟩
 have HD:=hideIt hd
 have HZ:=hideIt (zp_at L)
 have HZN:=hideIt (zp_none L)
 have HLN:Hid (L.length=n):=hideIt (by omega)
 have nI:(n:Int)≤1000000:=by omega
 have sI:(s.size:Int)=(n:Int):=by omega
 have HSN:=hideIt hnn
 rw [hs]
 clear hs hd hsz hnn
 go_enter Tryz.func120,Tryz.ntmps120
 go_wp2
 go_loopw [5] (fun t wr=>∃ i:Nat,i≤n∧t=.int .i64 i∧(∀ j,j < i→L[j]?≠some 0)∧wr=w) (fun t _=>n - (intOf t).toNat)
 case atStart=>exact ⟨0,by omega,rfl,fun j hj=>by omega,rfl⟩
 case round =>
  obtain ⟨i,hi,rfl,hall,hwr⟩:=hrel
  obtain rfl:=hwr.symm
  have HAL:=hideIt hall
  clear hall hwr
  by_cases hlt:i < n
  ·have i1:(i:Int) < (n:Int):=by omega
   have i2:decide ((i:Int) < (n:Int))=true:=decide_eq_true i1
   have i3:i < s.size:=by have:=HSN.out;omega
   have i4:(i:Int) < (s.size:Int):=by omega
   have i5:(0:Int)≤(i:Int):=by omega
   obtain ⟨c,hc⟩:∃ c,s[i]=c:=⟨_,rfl⟩
   have HC:Hid (L[i]? = some c):=hideIt (by rw [← HD.out,at_list s i i3,hc])
   by_cases h0:c=0
   ·subst h0
    have m1:((0:UInt8).toNat:Int)=0:=rfl
    go_wp2
    go_ret
    exact ⟨by rw [HZ.out i HAL.out HC.out];rfl,by first | rfl | trivial⟩
   ·have n0:¬ ((c.toNat:Int)=0):=by intro h;apply h0;apply UInt8.toNat_inj.1;simpa using (by omega:c.toNat=0)
    have n1:((c.toNat:Int) == 0)=false:=by simpa using n0
    go_wp2
    go_roundw
    case rel =>
     refine ⟨i + 1,by omega,by go_num,fun j hj=>?_,by first | rfl | trivial⟩
     rcases (by omega:j < i∨j=i) with h | h
     ·exact HAL.out j h
     ·subst h
      rw [HC.out]
      simpa using h0
    case measure=>simp [intOf];omega
  ·obtain rfl:i=n:=by omega
   have i2:decide ((i:Int) < (i:Int))=false:=decide_eq_false (by omega)
   go_wp2
   go_ret
   exact ⟨by rw [HZN.out (fun j hj=>HAL.out j (by have:=HLN.out;omega))];rfl,by first | rfl | trivial⟩
def stF (h:List UInt8):Nat→Int × List UInt8
 | 0=>(0,[])
 | m + 1=>if (word (m + 1:Nat) ++ [32]).isPrefixOf h then (((m + 1:Nat):Int),h.drop ((word (m + 1:Nat)).length + 1)) else stF h m
theorem stF_heads (h:List UInt8):stF h 3=match heads h with
  | none=>(0,[])
  | some p=>p:=by
 have e1:word ((1:Nat):Int)=[102,105,108,101]:=rfl
 have e2:word ((2:Nat):Int)=[114,117,110]:=rfl
 have e3:word ((3:Nat):Int)=[116,114,101,101]:=rfl
 simp only [stF,e1,e2,e3,heads,List.cons_append,List.nil_append,Nat.zero_add,Nat.reduceAdd,List.length_cons,List.length_nil]
 by_cases h1:[102,105,108,101,32].isPrefixOf h=true
 ·have:=pref_some _ _ h1
  rw [this]
  simp [List.isPrefixOf]
 ·by_cases h2:[114,117,110,32].isPrefixOf h=true
  ·have:=pref_some _ _ h2
   rw [this]
   simp [List.isPrefixOf]
  ·by_cases h3:[116,114,101,101,32].isPrefixOf h=true
   ·simp [h1,h2,h3]
   ·simp [h1,h2,h3]
end Go.Proofs.YtogjlepdejonpaaGreatDoor
namespace Go.Proofs.YtogjlepdejonpaaGreatDoor
open Go.RowKit Go.Shelf
theorem pfx (h r wl : List UInt8) (hq : wl.length ≤ h.length) : ((h ++ 0 :: r).take wl.length == wl) = wl.isPrefixOf h := by
  rw [List.take_append_of_le_length hq]
  cases hp : wl.isPrefixOf h with
  | true =>
    have := pref_some _ _ hp
    rw [this]
    simp
  | false =>
    cases hb : (h.take wl.length == wl) with
    | false => rfl
    | true =>
      have := beq_iff_eq.1 hb
      have h2 : wl.isPrefixOf h = true := List.isPrefixOf_iff_prefix.2 ⟨h.drop wl.length, by conv => lhs; rw [← this]
                                                                                             rw [this]; conv => rhs; rw [← List.take_append_drop wl.length h, this]⟩
      rw [hp] at h2
      cases h2
theorem pfx_no (h wl : List UInt8) (hq : ¬ wl.length ≤ h.length) : wl.isPrefixOf h = false := by
  cases hp : wl.isPrefixOf h with
  | false => rfl
  | true =>
    obtain ⟨t, rfl⟩ := List.isPrefixOf_iff_prefix.1 hp
    simp at hq
theorem mid_bs (h r : List UInt8) (q : Nat) : (bs (h ++ r)).extract q h.length = bs (h.drop q) := by
  apply bytes_ext
  rw [bs_list, ByteArray.data_extract]
  simp only [bs, Array.toList_extract, List.extract_eq_take_drop]
  by_cases hq : q ≤ h.length
  · rw [List.drop_append_of_le_length hq, List.take_append_of_le_length (by simp), List.take_of_length_le (by simp)]
  · simp [show h.length - q = 0 by omega]
    omega
theorem ext_bs (l : List UInt8) (a b : Nat) : (bs l).extract a b = bs ((l.drop a).take (b - a)) := by
  apply bytes_ext
  rw [bs_list, ByteArray.data_extract]
  simp [bs, List.extract_eq_take_drop]
theorem id_bs (h r : List UInt8) : (bs (h ++ 0 :: r)).extract (h.length + 1) (h.length + 33) = bs (r.take 32) := by
  rw [ext_bs]
  congr 1
  rw [show h.length + 33 - (h.length + 1) = 32 by omega]
  congr 1
  simp [List.drop_append]
theorem tail_bs (h r : List UInt8) (n : Nat) (hn : n = (h ++ 0 :: r).length) : (bs (h ++ 0 :: r)).extract (h.length + 33) n = bs (r.drop 32) := by
  rw [ext_bs]
  congr 1
  have e : (h ++ 0 :: r).drop (h.length + 33) = r.drop 32 := by simp [List.drop_append]
  rw [e, List.take_of_length_le]
  rw [hn]
  simp
  omega
theorem word_size (m : Int) : (word m).length ≤ 4 := by
  unfold word
  repeat' split
  all_goals simp
theorem step_append_own {P : Program} {ops : Array Oper} {o : Oper} {a : Act} {w : World} {K : Act → World → Prop} {Q : Exit → Act → World → Prop} {E : Prop}
    (hg : o.guard = none) (s x : Operand) (t : TypeId) (hop : o.op = Op.call { callee := Callee.builtin Builtin.append, args := #[s, x], argTypes := #[t, t] })
    (base : Nat) (e : TypeId) (i : TypeInfo) (z : Value) (size bytes : Nat) (h1 : P.underlying t = some (.slice e)) (h2 : P.info? e = some i) (h3 : i.zero = some z) (h4 : i.size = size) (h5 : i.bytes = bytes) (h6 : z.cells.size = size) (h7 : 0 < size)
    (v : Value) (n : Nat) (xs : List Value) (hs : a.eval s = v) (hown : w.ownsRow base e size v n xs)
    (ad : Addr) (m c : Nat) (news : List Value) (hx : a.eval x = .slice (some ad) m c) (hn : news.length = m * size) (hc : ∀ j u, news[j]? = some u → w.cell? (ad.add j) = some u) (h1c : ∀ u ∈ news, u.oneCell' = true)
    (b1 : n + m ≤ maxLen) (b2 : (n + m) * bytes ≤ 140737488355328) (hbase : base ≤ w.heap.size)
    (hK : ∀ v' w', w'.ownsRow base e size v' (n + m) (xs ++ news) → w.grownBy w' v.ownBlock → K (a.put o.dst v') w') :
    if Region.wanted o (yielded ops a.tmps) = true then Oper.wp P o a w K Q else E := by
  have hw : Region.wanted o (yielded ops a.tmps) = true := by simp [Region.wanted, hg]
  rw [if_pos hw]
  obtain ⟨v', w', hrun, r1, r2, _⟩ := run_append_own (P := P) w base t o.type e i z size bytes h1 h2 h3 h4 h5 h6 h7 v n xs hown ad m c news hn hc h1c b1 b2 hbase
  unfold Oper.wp
  simp [execOp, hop, resolve, invoke, builtin, hs, hx, hrun, Result.andThen]
  exact hK _ _ r1 r2
theorem stF_succ (h : List UInt8) (m : Nat) (hm : 1 ≤ m) : stF h m = if (word m ++ [32]).isPrefixOf h then ((m : Int), h.drop ((word m).length + 1)) else stF h (m - 1) := by
  obtain ⟨j, rfl⟩ : ∃ j, m = j + 1 := ⟨m - 1, by omega⟩
  rw [stF]
  rfl
theorem box_put {w : World} {k : Nat} {a b c : Value} {t : TypeId} (a' b' : Value) (h : w.heap[k]? = some (.cells #[a, b, c] t (0, 0))) : ((w.setCell ⟨k, 1, none⟩ b').setCell ⟨k, 0, none⟩ a').heap[k]? = some (.cells #[a', b', c] t (0, 0)) := by
  rw [heap_setCell_same _ k 0 _ t a' (heap_setCell_same w k 1 _ t b' h)]
  rfl
set_option maxHeartbeats 3200000 in
set_option maxRecDepth 100000 in
theorem refget_any (L : List UInt8) (hL : L.length ≤ 100000) (w : World) :
    Calls Tryz.prog 71 #[.string (bs L)] w fun e w' => DecTo w L e w' := by
  obtain ⟨i0, hi0, hz0, hz1, hz2⟩ := info_parts infoR
  have HT : Hid (∀ e w', DecTo w L e w' ↔ ∃ v, e = .returned (.tuple #[v, .int .i64 (dec L).1]) ∧ ERow w' v (dec L).2 ∧ Below w.heap.size w w') := hideIt (fun _ _ => Iff.rfl)
  have HIX := hideIt (index_any)
  have HCK := hideIt (refcheck_any)
  have HMO := hideIt (refmode_any)
  obtain ⟨S0, hS0⟩ : ∃ S0, bs L = S0 := ⟨_, rfl⟩
  rw [hS0]
  go_enter Tryz.func71, Tryz.ntmps71
  go_wp2
  go_loopw [0, 4] (fun t u wr => ∃ (acc : List En) (R : List UInt8) (f : Nat), t = .string (bs R) ∧ R.length ≤ f ∧ R.length ≤ 100000 ∧ decF f acc R = dec L ∧ acc.length ≤ 256 ∧ (∀ x ∈ acc, x.nm.size ≤ 100000) ∧ wr.ownsRow w.heap.size 104 3 u acc.length (esV acc) ∧ Below w.heap.size w wr) (fun t _ _ => szOf t)
  case atStart => exact ⟨[], L, L.length, by rw [hS0], Nat.le_refl _, hL, rfl, by simp, by simp, ⟨rfl, .inr ⟨w.heap.size, 0, #[], rfl, Nat.le_refl _, alloc_at rfl, by simp, by simp, rfl, rfl⟩⟩, (Below.refl _ _).alloc (Nat.le_refl _) _⟩
  case round =>
    obtain ⟨wo, hwo⟩ : ∃ wo, wo = wr := ⟨_, rfl⟩
    subst hwo
    obtain ⟨acc, R, f, rfl, hf, hR, hdec, hacc, hnm, hrow, hb⟩ := hrel
    have HO := hideIt hrow
    have HB := hideIt hb
    have HD := hideIt hdec
    have HNM := hideIt hnm
    have hws : w.heap.size ≤ wo.heap.size := hb.size
    clear hrow hb hdec hS0 hnm
    have hRs : (bs R).size = R.length := bs_size R
    obtain ⟨S1, hS1⟩ : ∃ S1, bs R = S1 := ⟨_, rfl⟩
    obtain ⟨n, hnn⟩ : ∃ n, R.length = n := ⟨_, rfl⟩
    have sI : (S1.size : Int) = (n : Int) := by rw [← hS1, hRs, hnn]
    by_cases hn : R = []
    · subst hn
      obtain rfl : n = 0 := by rw [← hnn]; rfl
      have HC := hideIt (HCK.out _ acc wo (ERow.of_row HO.out) (fun x hx => by have := HNM.out x hx; unfold maxLen; omega))
      have HD2 : Hid (dec L = fin acc) := hideIt (by rw [← HD.out, decF_end])
      obtain ⟨z, hz⟩ : ∃ z, chk acc = z := ⟨_, rfl⟩
      rw [hz] at HC
      have HZ := hideIt hz
      rw [hS1]
      clear hz HD hRs
      obtain ⟨av, cv, hv, _⟩ := ERow.of_row HO.out
      subst hv
      by_cases h0 : z = 0
      · subst h0
        go_wp2_with (first | (go_at_call 122; refine HC.out.mono ?_; rintro e w1 ⟨rfl, hb1⟩))
        go_ret2
        refine (HT.out _ _).2 ⟨.slice av acc.length cv, ?_, ?_, below2 HB.out hb1⟩
        · rw [HD2.out, fin, HZ.out]; rfl
        · rw [HD2.out, fin, if_pos HZ.out]
          exact (ERow.of_row HO.out).below hb1
      · have z1 : (z == 0) = false := by simpa using h0
        go_wp2_with (first | (go_at_call 122; refine HC.out.mono ?_; rintro e w1 ⟨rfl, hb1⟩))
        go_ret2
        refine (HT.out _ _).2 ⟨.slice none 0 0, ?_, ?_, below2 HB.out hb1⟩
        · rw [HD2.out, fin, HZ.out]; rfl
        · rw [HD2.out, fin, if_neg (by rw [HZ.out]; exact h0)]
          exact ERow.nil _
    · have hpos : 0 < n := by rw [← hnn]; exact List.length_pos_iff.2 hn
      have n1 : (0 : Int) < (n : Int) := by omega
      have n2 : decide ((0 : Int) < (n : Int)) = true := decide_eq_true n1
      have HX := hideIt (HIX.out R (by omega) wo)
      rw [hS1] at HX
      have HZP : Hid (zp R = match cut0 R with
        | none => -1
        | some p => (p.1.length : Nat)) := rfl
      cases hc : cut0 R with
      | none =>
        have hz : zp R = -1 := by rw [HZP.out, hc]
        rw [hz] at HX
        have HD2 : Hid (dec L = (4, [])) := hideIt (by rw [← HD.out, decF_err f acc R 4 hf hn (by rw [rd, hc])])
        rw [hS1]
        clear HD HZP hz hc hf
        go_wp2_with (first | (go_at_call 120; refine HX.out.mono ?_; rintro e w1 ⟨rfl, hw1⟩; obtain rfl := hw1.symm))
        go_ret2
        refine (HT.out _ _).2 ⟨.slice none 0 0, ?_, ?_, HB.out⟩
        · rw [HD2.out]; rfl
        · rw [HD2.out]
          exact ERow.nil _
      | some p =>
        obtain ⟨h, r⟩ := p
        obtain ⟨hRR, h0⟩ := cut0_some R h r hc
        obtain ⟨z, hzz⟩ : ∃ z, h.length = z := ⟨_, rfl⟩
        have hz : zp R = (z : Int) := by rw [HZP.out, hc]; simp [hzz]
        rw [hz] at HX
        obtain ⟨k, hk⟩ : ∃ k, r.length = k := ⟨_, rfl⟩
        have hsum : n = z + 1 + k := by rw [← hnn, hRR]; simp; omega
        have e1 : (n : Int) - (z : Int) = ((k + 1 : Nat) : Int) := by omega
        have e2 : ((k + 1 : Nat) : Int) - 1 = (k : Int) := by omega
        have z0 : ¬ (z : Int) < 0 := by omega
        have z1 : decide ((z : Int) < 0) = false := decide_eq_false z0
        have zI : (z : Int) ≤ 100000 := by omega
        have kI : (k : Int) ≤ 100000 := by omega
        have nI : (n : Int) ≤ 100000 := by omega
        obtain ⟨k1, hk1⟩ : ∃ k1, k + 1 = k1 := ⟨_, rfl⟩
        rw [hk1] at e1 e2
        by_cases h32 : k < 32
        · have g1 : (k : Int) < 32 := by omega
          have g2 : decide ((k : Int) < 32) = true := decide_eq_true g1
          have HD2 : Hid (dec L = (4, [])) := hideIt (by rw [← HD.out, decF_err f acc R 4 hf hn (by rw [rd, hc]; simp; omega)])
          rw [hS1]
          clear HD HZP hz hc hf hRR h0 hzz hsum hk hk1
          go_wp2_with (first | (go_at_call 120; refine HX.out.mono ?_; rintro e w1 ⟨rfl, hw1⟩; obtain rfl := hw1.symm))
          go_ret2
          refine (HT.out _ _).2 ⟨.slice none 0 0, ?_, ?_, HB.out⟩
          · rw [HD2.out]; rfl
          · rw [HD2.out]
            exact ERow.nil _
        · have g1 : ¬ (k : Int) < 32 := by omega
          have g2 : decide ((k : Int) < 32) = false := decide_eq_false g1
          obtain ⟨za, hza⟩ : ∃ za, z + 1 = za := ⟨_, rfl⟩
          obtain ⟨zb, hzb⟩ : ∃ zb, z + 33 = zb := ⟨_, rfl⟩
          have za1 : (z : Int) + 1 = (za : Int) := by omega
          have zb1 : (z : Int) + 33 = (zb : Int) := by omega
          have za2 : (za : Int) ≤ (zb : Int) := by omega
          have zb2 : (zb : Int) ≤ (n : Int) := by omega
          have zb3 : zb ≤ n := by omega
          have za3 : za ≤ zb := by omega
          have ze : z ≤ n := by omega
          have zeI : (z : Int) ≤ (n : Int) := by omega
          obtain ⟨ID, hID⟩ : ∃ ID, bs (r.take 32) = ID := ⟨_, rfl⟩
          obtain ⟨RR, hRest⟩ : ∃ RR, bs (r.drop 32) = RR := ⟨_, rfl⟩
          have x1 : S1.extract za zb = ID := by rw [← hS1, hRR, ← hza, ← hzb, ← hzz, id_bs, hID]
          have x2 : S1.extract zb n = RR := by rw [← hS1, hRR, ← hzb, ← hzz, tail_bs h r n (by rw [← hRR, hnn]), hRest]
          have zbI : IntKind.i64.wrap (zb : Int) = (zb : Int) := by rw [IntKind.wrap_i64]; omega
          have x2s : S1.extract zb S1.size = RR := by rw [show S1.size = n by omega]; exact x2
          have HNAME : Hid (∀ q, S1.extract q z = bs (h.drop q)) := hideIt (fun q => by rw [← hS1, hRR, ← hzz, mid_bs])
          have HPF : Hid (∀ wl : List UInt8, wl.length ≤ z → ((S1.extract 0 wl.length).toList == (bs wl).toList) = wl.isPrefixOf h) := hideIt (fun wl hq => by
            rw [← pfx h r wl (by omega), ByteArray.toList_eq, ByteArray.toList_eq, bs_list, ← hS1, hRR, ext_bs, bs_list]
            simp)
          have HNP : Hid (∀ wl : List UInt8, ¬ wl.length ≤ z → wl.isPrefixOf h = false) := hideIt (fun wl hq => pfx_no h wl (by omega))
          have HRD : Hid (rd R = match heads h with
            | none => .err 60
            | some (m, n) => .ok ⟨bs n, m, bs (r.take 32)⟩ (r.drop 32)) := hideIt (by
            rw [rd, hc]
            dsimp only
            rw [if_neg (by omega)]
            cases heads h <;> rfl)
          have HHL : Hid (h.length = z ∧ r.length = k ∧ R.length = n ∧ n = z + 1 + k) := hideIt ⟨hzz, hk, hnn, hsum⟩
          rw [hS1]
          clear HZP hz hc hRR h0 hzz hsum hk hk1 hza hzb
          go_wp2_with (first | (go_at_call 120; refine HX.out.mono ?_; rintro e w1 ⟨rfl, hw1⟩; obtain rfl := hw1.symm))
          go_loopw [7] (fun t wq => ∃ m : Nat, 1 ≤ m ∧ m ≤ 4 ∧ t = .int .i64 m ∧ wq.heap[wo.heap.size]? = some (.cells #[.string (bs (stF h (m - 1)).2), .int .i64 (stF h (m - 1)).1, .string ID] 104 (0, 0)) ∧ Below wo.heap.size wo wq) (fun t _ => 4 - (intOf t).toNat)
          case atStart => exact ⟨1, by omega, by omega, rfl, alloc_at rfl, (Below.refl _ _).alloc (Nat.le_refl _) _⟩
          case round =>
            obtain ⟨m, hm1, hm4, rfl, hbx, hbq⟩ := hrel
            have HBX := hideIt hbx
            have HBQ := hideIt hbq
            have hwq : wo.heap.size < wr.heap.size := block_lt hbx
            by_cases hlt : m < 4
            · have m1 : (m : Int) < 4 := by omega
              have m2 : decide ((m : Int) < 4) = true := decide_eq_true m1
              have hms := stF_succ h m hm1
              have HST := hideIt hms
              have HM := hideIt (HMO.out (m : Int) (by omega))
              have hws := word_size (m : Int)
              obtain ⟨W0, hW0⟩ : ∃ W0, bs (word m) = W0 := ⟨_, rfl⟩
              have sw0 : W0.size = (word m).length := by rw [← hW0, bs_size]
              obtain ⟨WL, hWL⟩ : ∃ WL, W0 ++ ⟨#[32]⟩ = WL := ⟨_, rfl⟩
              have hWLb : WL = bs (word m ++ [32]) := by
                rw [← hWL, ← hW0]
                apply bytes_ext
                simp [bs_list]
              obtain ⟨q, hq⟩ : ∃ q, (word m ++ [32]).length = q := ⟨_, rfl⟩
              have hq5 : q ≤ 5 := by rw [← hq]; simp; omega
              have sL : (WL.size : Int) = (q : Int) := by rw [hWLb, bs_size, hq]
              have sLn : WL.size = q := by omega
              have t1 : ¬ 9223372036854775807 < W0.size + 1 := by omega
              have t1a : ¬ 9223372036854775806 < W0.size := by omega
              have y1 : (⟨#[32]⟩ : ByteArray).size = 1 := rfl
              obtain ⟨pf, hpf⟩ : ∃ pf, (word m ++ [32]).isPrefixOf h = pf := ⟨_, rfl⟩
              have HNX : Hid (stF h m = if pf = true then ((m : Int), h.drop q) else stF h (m - 1)) := hideIt (by
                rw [HST.out, hpf, ← hq]
                simp)
              rw [hW0] at HM
              obtain ⟨b0, b1, b2⟩ := three_cells (x := ⟨bs (stF h (m - 1)).2, (stF h (m - 1)).1, ID⟩) hbx
              have HKB : Hid (∀ w1, Below wr.heap.size wr w1 → w1.heap[wo.heap.size]? = some (.cells #[.string (bs (stF h (m - 1)).2), .int .i64 (stF h (m - 1)).1, .string ID] 104 (0, 0))) := hideIt (fun w1 h1 => (h1.block _ hwq).trans HBX.out)
              clear hms hbx hbq b0 b1 b2
              by_cases hqz : q ≤ z
              · have q1 : (q : Int) ≤ (z : Int) := by omega
                have q2 : decide ((q : Int) ≤ (z : Int)) = true := decide_eq_true q1
                have q3 : (q : Int) ≤ (n : Int) := by omega
                have q4 : (0 : Int) ≤ (q : Int) := by omega
                have hcmp : ((S1.extract 0 q).toList == WL.toList) = pf := by rw [hWLb, ← hq, HPF.out _ (by omega), hpf]
                cases pf with
                | true =>
                  obtain ⟨NM, hNM⟩ : ∃ NM, bs (h.drop q) = NM := ⟨_, rfl⟩
                  have x3 : S1.extract q z = NM := by rw [HNAME.out, hNM]
                  clear hpf hWLb hq hW0
                  go_wp2_with (first | (go_at_call 121; refine (HM.out _).mono ?_; rintro e w1 ⟨rfl, hb1⟩; obtain ⟨d0, d1, d2⟩ := three_cells (x := ⟨bs (stF h (m - 1)).2, (stF h (m - 1)).1, ID⟩) (HKB.out w1 hb1); have f0 := Lib.frozen_of_heap (HKB.out w1 hb1) 0; have f1 := Lib.frozen_of_heap (HKB.out w1 hb1) 1))
                  go_region
                  go_wp2
                  go_roundw
                  case rel =>
                    refine ⟨m + 1, by omega, by omega, by go_num, ?_, ?_⟩
                    · rw [show m + 1 - 1 = m by omega, HNX.out, if_pos trivial, hNM]
                      exact box_put _ _ (HKB.out _ hb1)
                    · exact (((HBQ.out.trans (hb1.mono (Nat.le_of_lt hwq))).setCell (p := ⟨wo.heap.size, 1, none⟩) (Nat.le_refl _) _).setCell (p := ⟨wo.heap.size, 0, none⟩) (Nat.le_refl _) _).drew
                  case measure => simp [intOf]; omega
                | false =>
                  clear hpf hWLb hq hW0
                  go_wp2_with (first | (go_at_call 121; refine (HM.out _).mono ?_; rintro e w1 ⟨rfl, hb1⟩))
                  go_roundw
                  case rel => exact ⟨m + 1, by omega, by omega, by go_num, by rw [show m + 1 - 1 = m by omega, HNX.out]; exact HKB.out _ hb1, HBQ.out.trans (hb1.mono (Nat.le_of_lt hwq))⟩
                  case measure => simp [intOf]; omega
              · have q1 : ¬ (q : Int) ≤ (z : Int) := by omega
                have q2 : decide ((q : Int) ≤ (z : Int)) = false := decide_eq_false q1
                have hpf2 : pf = false := by rw [← hpf, HNP.out _ (by omega)]
                subst hpf2
                clear hpf hWLb hq hW0
                go_wp2_with (first | (go_at_call 121; refine (HM.out _).mono ?_; rintro e w1 ⟨rfl, hb1⟩))
                go_roundw
                case rel => exact ⟨m + 1, by omega, by omega, by go_num, by rw [show m + 1 - 1 = m by omega, HNX.out]; exact HKB.out _ hb1, HBQ.out.trans (hb1.mono (Nat.le_of_lt hwq))⟩
                case measure => simp [intOf]; omega
            · obtain rfl : m = 4 := by omega
              have h3 : stF h (4 - 1) = match heads h with
                | none => (0, [])
                | some p => p := stF_heads h
              have HWR := hideIt (below2 HB.out HBQ.out)
              have hwr : w.heap.size ≤ wr.heap.size := HWR.out.size
              rw [h3] at hbx
              clear h3 HBX
              cases hh : heads h with
              | none =>
                rw [hh] at hbx
                obtain ⟨b0, b1, b2⟩ := three_cells (x := ⟨⟨#[]⟩, 0, ID⟩) hbx
                have HD2 : Hid (dec L = (60, [])) := hideIt (by rw [← HD.out, decF_err f acc R 60 hf hn (by rw [HRD.out, hh])])
                clear hbx hbq hh HD hf
                go_wp2
                go_ret2
                refine (HT.out _ _).2 ⟨.slice none 0 0, ?_, ?_, HWR.out⟩
                · rw [HD2.out]; rfl
                · rw [HD2.out]
                  exact ERow.nil _
              | some p =>
                obtain ⟨md, nm⟩ := p
                rw [hh] at hbx
                obtain ⟨hhd, hmd⟩ := heads_some h md nm hh
                have hrd : rd R = .ok ⟨bs nm, md, bs (r.take 32)⟩ (r.drop 32) := by rw [HRD.out, hh]
                obtain ⟨g, hg, hdg⟩ := decF_ok1 f acc R _ _ hf hrd
                have HDG := hideIt hdg
                obtain ⟨NM, hNM⟩ : ∃ NM, bs nm = NM := ⟨_, rfl⟩
                have hNMs : NM.size ≤ 100000 := by
                  have h1 : h.length = z := HHL.out.1
                  rw [← hNM, bs_size]
                  have : nm.length ≤ h.length := by rw [hhd]; simp; omega
                  omega
                have md0 : ¬ md = 0 := by omega
                have md1 : (md == 0) = false := by simpa using md0
                rw [show (md, nm).2 = nm from rfl, show (md, nm).1 = md from rfl, hNM] at hbx
                obtain ⟨b0, b1, b2⟩ := three_cells (x := ⟨NM, md, ID⟩) hbx
                obtain ⟨u, hu⟩ : ∃ u, acc.length = u := ⟨_, rfl⟩
                have HU := hideIt hu
                have hown := own_below HO.out HBQ.out
                rw [hu] at hown hacc
                have HOW := hideIt hown
                have HKP : Hid (∀ w3 : World, (wr.drew.alloc (.cells #[.string NM, .int .i64 md, .string ID] 104)).grownBy w3 (Value.ownBlock _) → w3.cell? ⟨wo.heap.size, 0, none⟩ = some (.string NM) ∧ w3.cell? ⟨wo.heap.size, 1, none⟩ = some (.int .i64 md) ∧ w3.cell? ⟨wo.heap.size, 2, none⟩ = some (.string ID)) := hideIt (fun w3 hg => by
                  refine three_cells (x := ⟨NM, md, ID⟩) (t := 104) (fr := (0, 0)) ?_
                  rw [hg.block wo.heap.size (by simp; omega) (fun e => by have := (HO.out.lt _ e.symm).2; omega)]
                  exact (Below.heap_alloc wr.drew _ _ hwq).trans hbx)
                clear hbx hbq hh hdg hrd hf hown hu hhd
                go_wp2
                go_region_held3 (fun X => X.cell? ⟨wo.heap.size, 0, none⟩ = some (.string NM) ∧ X.cell? ⟨wo.heap.size, 1, none⟩ = some (.int .i64 md) ∧ X.cell? ⟨wo.heap.size, 2, none⟩ = some (.string ID)) (first | exact ⟨b0, b1, b2⟩ | exact HKP.out _ hg3 | go_keep) (first | (refine step_append_own (by rfl) _ _ 100 (by rfl) w.heap.size 104 i0 (.agg #[.string ⟨#[]⟩, .int .i64 0, .string ⟨#[]⟩]) 3 40 Tryz.underlying100 hi0 hz0 hz1 hz2 rfl (by decide) _ _ _ (by rfl) (HOW.out.drew.alloc _) ⟨wr.heap.size, 0, none⟩ 1 1 [.string NM, .int .i64 md, .string ID] (by rfl) rfl (three_new (w := wr.drew) ⟨NM, md, ID⟩ _) (fun u hu => by simp at hu; rcases hu with rfl | rfl | rfl <;> rfl) (by unfold maxLen; omega) (by omega) (by simp; omega) ?_; intro v3 w3 hown3 hg3))
                have hb3 : Below w.heap.size w w3 := Below.grown ((HWR.out.drew.alloc (by simp; omega) _)) hg3 (by simp; omega) (row_ge HOW.out)
                have hown4 : w3.ownsRow w.heap.size 104 3 v3 (acc ++ [(⟨NM, md, ID⟩ : En)]).length (esV (acc ++ [(⟨NM, md, ID⟩ : En)])) := by
                  rw [esV_snoc]
                  simpa [HU.out] using hown3
                have HO4 := hideIt hown4
                have HB3 := hideIt hb3
                obtain ⟨va, vc, hv3, _⟩ := ERow.of_row hown4
                obtain ⟨u1, hu1⟩ : ∃ u1, (acc ++ [(⟨NM, md, ID⟩ : En)]).length = u1 := ⟨_, rfl⟩
                rw [hu1] at hv3
                have hu2 : u + 1 = u1 := by rw [← hu1, ← HU.out]; simp
                subst hv3
                have HU1 := hideIt hu1
                clear hown3 hg3 hb3 hown4 hu1
                by_cases h256 : u = 256
                · have m1 : (256 : Int) < (u1 : Int) := by omega
                  have m2 : decide ((256 : Int) < (u1 : Int)) = true := decide_eq_true m1
                  clear hu2
                  go_wp2
                  go_ret2
                  refine (HT.out _ _).2 ⟨.slice none 0 0, ?_, ?_, HB3.out⟩
                  · rw [← HD.out, HDG.out, if_pos (by rw [HU.out]; exact h256)]; rfl
                  · rw [← HD.out, HDG.out, if_pos (by rw [HU.out]; exact h256)]
                    exact ERow.nil _
                · have m1 : ¬ (256 : Int) < (u1 : Int) := by omega
                  have m2 : decide ((256 : Int) < (u1 : Int)) = false := decide_eq_false m1
                  have hle : u1 ≤ 256 := by omega
                  clear hu2
                  go_wp2
                  go_roundw
                  case rel =>
                    refine ⟨acc ++ [⟨NM, md, ID⟩], r.drop 32, g, by rw [hRest], hg, ?_, ?_, by rw [HU1.out]; exact hle, ?_, by have := HO4.out; rw [HU1.out] at this; rw [HU1.out]; exact this, HB3.out⟩
                    · have := HHL.out
                      rw [List.length_drop]
                      omega
                    · rw [← HD.out, HDG.out, if_neg (by rw [HU.out]; exact h256), hNM, hID]
                    · intro x hx
                      rcases List.mem_append.1 hx with hx | hx
                      · exact HNM.out x hx
                      · simp at hx
                        subst hx
                        exact hNMs
                  case measure =>
                    have := HHL.out
                    rw [← hRest, ← hS1]
                    simp [szOf, bs_size]
                    omega
end Go.Proofs.YtogjlepdejonpaaGreatDoor
namespace Go.Proofs.YtogjlepdejonpaaGreatDoor
namespace Ob
open Go.RowKit Go.Shelf
theorem two_cells {w:World} {b:Nat} {k:Int} {s:ByteArray} {t:TypeId} {fr:Nat × Nat} (h:w.heap[b]? = some (.cells #[.int .i64 k,.string s] t fr)):w.cell? ⟨b,0,none⟩=some (.int .i64 k)∧w.cell? ⟨b,1,none⟩=some (.string s):=by
 constructor <;> simp [World.cell?,h]
set_option maxHeartbeats 6400000 in
set_option maxRecDepth 100000 in
theorem reflinks_any (L:List UInt8) (w:World) (hL:L.length≤100000) :
  Calls Tryz.prog 32 #[.string (bs L)] w fun e w'=>LkTo w (links L) e w':=by
 obtain ⟨i0,hi0,hz0,hz1,hz2⟩:=info_parts infoM
 have HT:Hid (∀ e w',LkTo w (links L) e w'↔∃ v,e=.returned (.tuple #[v,.int .i64 (links L).2])∧LRow w' v (links L).1∧Below w.heap.size w w'):=hideIt (fun _ _=>Iff.rfl)
 have HS:=hideIt (refopen_any L (by omega) w)
 have hbl:(opn L).2.1.length≤L.length:=by
  unfold opn
  split
  ·simp
  ·rename_i h body hc
   have e:=(cutc_some 0 L h body hc).1
   have hl:body.length≤L.length:=by rw [e];simp;omega
   split
   ·simp
   ·split
    ·simp
    ·unfold opn3
     split
     ·simp
     ·repeat' split
      all_goals first | exact hl | simp
 have HL:Hid (links L=if (opn L).2.2=0 then (if (opn L).1=2 then treeLk (opn L).2.1 else if (opn L).1=3 then comLk (opn L).2.1 else if (opn L).1=4 then tagLk (opn L).2.1 else ([],0)) else ([],(opn L).2.2)):=rfl
 unfold opV at HS
 obtain ⟨k,hkk⟩:∃ k,(opn L).1=k:=⟨_,rfl⟩
 obtain ⟨b,hb⟩:∃ b,(opn L).2.1=b:=⟨_,rfl⟩
 obtain ⟨z,hz⟩:∃ z,(opn L).2.2=z:=⟨_,rfl⟩
 rw [hkk,hb,hz] at HS HL
 rw [hb] at hbl
 obtain ⟨S,hS⟩:∃ S,bs L=S:=⟨_,rfl⟩
 rw [hS] at HS ⊢
 clear hkk hb hz hS
 have HBE:=hideIt (fun (w1:World)=>new_below w1 (.cells #[] 106))
 by_cases h0:z=0
 ·subst h0
  rw [if_pos rfl] at HL
  by_cases k2:k=2
  ·subst k2
   rw [if_pos rfl] at HL
   unfold treeLk at HL
   have HD:Hid (∀ w,Calls Tryz.prog 71 #[.string (bs b)] w fun e w'=>∃ a k,e=.returned (.tuple #[.slice a (dec b).2.length k,.int .i64 (dec b).1])∧k≤maxLen∧(0 < (dec b).2.length→∃ g o,a=some ⟨g,o,none⟩∧ECells w' g o (dec b).2)∧(dec b).2.length≤k∧Below w.heap.size w w'):=hideIt (fun w=>(refget_any b (by omega) w).mono (by
    rintro e w' ⟨v,rfl,⟨a,k,rfl,h2,h3,h4⟩,h5⟩
    exact ⟨a,k,rfl,h3.1,h4,h2,h5⟩))
   have hn:=dec_len b
   obtain ⟨es,hes⟩:∃ es,(dec b).2=es:=⟨_,rfl⟩
   obtain ⟨z,hz⟩:∃ z,(dec b).1=z:=⟨_,rfl⟩
   rw [hes,hz] at HL HD
   rw [hes] at hn
   obtain ⟨Y,hY⟩:∃ S,bs b=S:=⟨_,rfl⟩
   rw [hY] at HS HD
   obtain ⟨n,hnn⟩:∃ n,es.length=n:=⟨_,rfl⟩
   have HN:=hideIt hnn
   rw [hnn] at HD hn
   clear hes hz hY hnn hL hbl
   have nI:(n:Int)≤256:=by omega
   go_enter Tryz.func32,Tryz.ntmps32
   go_wp2_with (first
    | (go_at_call 70;refine HS.out.mono ?_;rintro e w0 ⟨rfl,hb0⟩;have HB0:=hideIt (below2 hb0 (HBE.out w0));clear hb0)
    | (go_at_call 71;refine (HD.out _).mono ?_;rintro e w1 ⟨a1,k1,rfl,hm1,hcells,hlc,hb1⟩;have HC:=hideIt hcells;have HB1:=hideIt (below2 HB0.out hb1);clear hcells hb1;unfold maxLen at hm1))
   go_loopw [7,10] (fun v t wr=>∃ i:Nat,i≤n∧t=.int .i64 i∧LOwn wr w1.heap.size 106 v ((es.take i).map enLk)∧Below w1.heap.size w1 wr) (fun _ t _=>n - (intOf t).toNat)
   case atStart=>exact ⟨0,by omega,rfl,.inl ⟨rfl,_,rfl⟩,Below.refl _ _⟩
   case round =>
    obtain ⟨i,hi,rfl,hown,hbl⟩:=hrel
    have HO:=hideIt hown
    have HBL:=hideIt hbl
    clear hown hbl
    by_cases hlt:i < n
    ·have i1:decide ((i:Int) < (n:Int))=true:=decide_eq_true (by omega)
     have i2:(i:Int) < (n:Int):=by omega
     obtain ⟨g,o,hab,hcl⟩:=HC.out (by omega)
     subst hab
     obtain ⟨x,hxi⟩:∃ x,es[i]? = some x:=⟨es[i]'(by rw [HN.out];exact hlt),by simp⟩
     obtain ⟨y0,y1,y2⟩:=(hcl.below HBL.out).2 i x hxi
     have HTK:Hid ((es.take (i + 1)).map enLk=(es.take i).map enLk ++ [enLk x]):=hideIt (by rw [List.take_add_one,hxi];simp)
     have hsz:w1.heap.size≤wr.heap.size:=HBL.out.size
     have HEN:Hid (enLk x=⟨if x.md=3 then 2 else 1,x.ids⟩):=rfl
     obtain ⟨nm,md,ids⟩:=x
     obtain ⟨-,x1,x2⟩:=((hcl.below HBL.out).below (new_below wr (.cells #[.int .i64 1,.string ids] 106))).2 i _ hxi
     simp only at y0 y1 y2 x1 x2 HEN
     have HW0:Hid ((wr.alloc (.cells #[.int .i64 1,.string ids] 106)).heap[wr.heap.size]? = some (.cells #[.int .i64 1,.string ids] 106 (0,0))):=hideIt (Cb.alloc_at rfl)
     obtain ⟨e0,e1⟩:=two_cells HW0.out
     have f0:=Lib.frozen_of_heap HW0.out 0
     clear hcl hxi
     by_cases hmd:md=3
     ·subst hmd
      rw [if_pos rfl] at HEN
      rw [HEN.out] at HTK
      have HWB:Hid (Below wr.heap.size wr ((wr.alloc (.cells #[.int .i64 2,.string ids] 106)).alloc (.cells #[.int .i64 2,.string ids] 106))):=hideIt (below2 (new_below _ _) (new_below _ _))
      have HTN:Hid (∀ (j:Nat) (u:Value),[Value.int .i64 2,.string ids][j]? = some u→((wr.alloc (.cells #[.int .i64 2,.string ids] 106)).alloc (.cells #[.int .i64 2,.string ids] 106)).cell? ((⟨wr.heap.size + 1,0,none⟩:Addr).add j)=some u):=hideIt (fun j u h=>by
       have:=two_new (w:=wr.alloc (.cells #[.int .i64 2,.string ids] 106)) ⟨2,ids⟩ 106 j u h
       simpa using this)
      go_wp2_with (first | (at_builtin;refine append_lk _ rfl _ _ 50 106 rfl i0 Tryz.underlying50 hi0 hz0 hz1 hz2 w1.heap.size _ ((es.take i).map enLk) rfl (HO.out.below HWB.out) ⟨wr.heap.size + 1,0,none⟩ ⟨2,ids⟩ rfl HTN.out (by simp;omega) (Nat.le_trans hsz HWB.out.size) ?_;intro v3 w3 hown3 hb3))
      go_roundw
      case rel =>
       refine ⟨i + 1,by omega,by go_num,.inr ?_,(HBL.out.trans (HWB.out.mono hsz)).trans hb3⟩
       rw [HTK.out]
       simpa using hown3
      case measure=>simp [intOf];omega
     ·have m1:(md == 3)=false:=by simpa using hmd
      rw [if_neg hmd] at HEN
      rw [HEN.out] at HTK
      have HWB:Hid (Below wr.heap.size wr ((wr.alloc (.cells #[.int .i64 1,.string ids] 106)).alloc (.cells #[.int .i64 1,.string ids] 106))):=hideIt (below2 (new_below _ _) (new_below _ _))
      have HTN:Hid (∀ (j:Nat) (u:Value),[Value.int .i64 1,.string ids][j]? = some u→((wr.alloc (.cells #[.int .i64 1,.string ids] 106)).alloc (.cells #[.int .i64 1,.string ids] 106)).cell? ((⟨wr.heap.size + 1,0,none⟩:Addr).add j)=some u):=hideIt (fun j u h=>by
       have:=two_new (w:=wr.alloc (.cells #[.int .i64 1,.string ids] 106)) ⟨1,ids⟩ 106 j u h
       simpa using this)
      go_wp2_with (first | (at_builtin;refine append_lk _ rfl _ _ 50 106 rfl i0 Tryz.underlying50 hi0 hz0 hz1 hz2 w1.heap.size _ ((es.take i).map enLk) rfl (HO.out.below HWB.out) ⟨wr.heap.size + 1,0,none⟩ ⟨1,ids⟩ rfl HTN.out (by simp;omega) (Nat.le_trans hsz HWB.out.size) ?_;intro v3 w3 hown3 hb3))
      go_roundw
      case rel =>
       refine ⟨i + 1,by omega,by go_num,.inr ?_,(HBL.out.trans (HWB.out.mono hsz)).trans hb3⟩
       rw [HTK.out]
       simpa using hown3
      case measure=>simp [intOf];omega
    ·obtain rfl:i=n:=by omega
     have i1:decide ((i:Int) < (i:Int))=false:=decide_eq_false (by omega)
     go_wp2
     go_ret2
     refine (HT.out _ _).2 ⟨_,by rw [HL.out] <;> rfl,?_,below2 HB1.out HBL.out⟩
     rw [HL.out]
     have:=HO.out.row
     rw [← HN.out,List.take_length] at this
     exact this
  ·have q2:(k == 2)=false:=by simpa using k2
   rw [if_neg k2] at HL
   by_cases k3:k=3
   ·subst k3
    rw [if_pos rfl] at HL
    unfold comLk at HL
    have HG:=hideIt (fun w=>refgetCommit_any b w (by omega))
    have HLN:Hid (gCz b=0→(gCm b).ps.length≤4):=hideIt (fun h=>by
     unfold gCz at h
     split at h
     ·exact (comE_ok h).1
     ·omega)
    obtain ⟨Y,hY⟩:∃ S,bs b=S:=⟨_,rfl⟩
    rw [hY] at HG HS
    obtain ⟨z,hz⟩:∃ z,gCz b=z:=⟨_,rfl⟩
    have HZ:=hideIt hz
    rw [hz] at HL HLN
    clear hL hY hbl
    by_cases h0:z=0
    ·subst h0
     rw [if_pos rfl] at HL
     obtain ⟨d,hd⟩:∃ d,gCm b=d:=⟨_,rfl⟩
     have HG2:Hid (∀ w,Calls Tryz.prog 72 #[.string Y] w fun e w'=>∃ a k,e=.returned (.tuple #[.agg #[.string d.tr,.slice a d.ps.length k,.string d.au,.int .u64 (d.tm:Int),.string d.tx],.int .i64 0])∧SRow w' (.slice a d.ps.length k) d.ps∧Below w.heap.size w w'):=hideIt (fun w=>(HG.out w).mono (by
      rintro e w' ⟨c,rfl,h1,h2,h3,h4⟩
      have hc:=h2 HZ.out
      rw [hd] at hc
      obtain ⟨tr,pv,ps,au,tm,tx⟩:=c
      simp only [Cm.mk.injEq,true_and] at hc
      obtain ⟨rfl,rfl,rfl,rfl,rfl⟩:=hc
      have hr:=h1
      obtain ⟨a,k,e,_⟩:=h1
      simp only at e hr
      subst e
      exact ⟨a,k,by rw [HZ.out];rfl,hr,h4⟩))
     rw [hd] at HL HLN
     have hlen:=HLN.out rfl
     obtain ⟨tr,pv,ps,au,tm,tx⟩:=d
     simp only at HG2 HL hlen
     obtain ⟨n,hn⟩:∃ n,ps.length=n:=⟨_,rfl⟩
     have HN:=hideIt hn
     rw [hn] at HG2 hlen
     clear hd hz HG HLN hn HZ
     have nI:(n:Int)≤4:=by omega
     go_enter Tryz.func32,Tryz.ntmps32
     go_wp2_with (first
      | (go_at_call 70;refine HS.out.mono ?_;rintro e w0 ⟨rfl,hb0⟩;have HB0:=hideIt (below2 hb0 (HBE.out w0));clear hb0)
      | (go_at_call 72;refine (HG2.out _).mono ?_;rintro e w1 ⟨a1,k1,rfl,hr1,hb1⟩;have HB1:=hideIt (below2 HB0.out hb1);have C1:=hideIt (CBox.new w1 108 ⟨tr,.slice a1 n k1,ps,au,tm,tx⟩);have c0:=C1.out.c0;have c1:=C1.out.c1;dsimp only [cmO] at c0 c1)
      | (at_builtin;refine append_lk _ rfl _ _ 50 106 rfl i0 Tryz.underlying50 hi0 hz0 hz1 hz2 (w1.alloc (.cells #[.string tr,.slice a1 n k1,.string au,.int .u64 (tm:Int),.string tx] 108)).heap.size _ [] rfl (.inl ⟨rfl,_,rfl⟩) ⟨w1.heap.size + 1,0,none⟩ ⟨2,tr⟩ rfl (by
        intro j u h
        have:=two_new (w:=w1.alloc (.cells #[.string tr,.slice a1 n k1,.string au,.int .u64 (tm:Int),.string tx] 108)) ⟨2,tr⟩ 106 j u h
        simpa using this) (by simp) (new_below _ _).size ?_;intro v3 w3 hown3 hb3))
     obtain ⟨a',k',he,hlc,hcm,hcells⟩:=hr1
     simp only [Value.slice.injEq] at he
     obtain ⟨rfl,hne,rfl⟩:=he
     have hm1:=hcm.1
     unfold maxLen at hm1
     obtain ⟨W,hW⟩:∃ W,w1.alloc (.cells #[.string tr,.slice a1 n k1,.string au,.int .u64 (tm:Int),.string tx] 108)=W:=⟨_,rfl⟩
     have HBW:Hid (Below w1.heap.size w1 W):=hideIt (by rw [← hW];exact new_below _ _)
     have HSZ:Hid (W.heap.size=w1.heap.size + 1):=hideIt (by rw [← hW];simp)
     rw [hW] at hown3 hb3
     have HC:Hid (0 < n→∃ b o,a1=some ⟨b,o,none⟩∧SCells W b o ps):=hideIt (fun h=>by
      obtain ⟨b,o,e,hc⟩:=hcells (by rw [HN.out];exact h)
      exact ⟨b,o,e,hc.below HBW.out⟩)
     have HCB:Hid (CBox W w1.heap.size 108 ⟨tr,.slice a1 n k1,ps,au,tm,tx⟩):=hideIt (by rw [← hW];exact C1.out)
     have HW3:Hid (Below W.heap.size W w3):=hideIt ((new_below W (.cells #[.int .i64 2,.string tr] 106)).trans hb3)
     have HS0:Hid (LOwn w3 W.heap.size 106 v3 [⟨2,tr⟩]):=hideIt (.inr hown3)
     clear hb1 hcells hcm hne hW hown3 hb3 C1 c0 c1
     go_loopw [7,14] (fun v t wr=>∃ i:Nat,i≤n∧t=.int .i64 i∧LOwn wr W.heap.size 106 v (⟨2,tr⟩ :: (ps.take i).map (fun p=>⟨3,p⟩))∧Below W.heap.size W wr) (fun _ t _=>n - (intOf t).toNat)
     case atStart=>exact ⟨0,by omega,rfl,HS0.out,HW3.out⟩
     case round =>
      obtain ⟨i,hi,rfl,hown,hbl⟩:=hrel
      have HO:=hideIt hown
      have HBL:=hideIt hbl
      have c1:=(HCB.out.below hbl).c1
      dsimp only at c1
      clear hown hbl HS0 HW3
      by_cases hlt:i < n
      ·have i1:decide ((i:Int) < (n:Int))=true:=decide_eq_true (by omega)
       have i2:(i:Int) < (n:Int):=by omega
       obtain ⟨b,o,hab,hcl⟩:=HC.out (by omega)
       subst hab
       obtain ⟨y,hyi⟩:∃ y,ps[i]? = some y:=⟨ps[i]'(by rw [HN.out];exact hlt),by simp⟩
       have cy:=(hcl.below HBL.out).2 i y hyi
       have HTK:Hid (ps.take (i + 1)=ps.take i ++ [y]):=hideIt (by rw [List.take_add_one,hyi];rfl)
       have hsz:W.heap.size≤wr.heap.size:=HBL.out.size
       clear hcl hyi
       go_wp2_with (first | (at_builtin;refine append_lk _ rfl _ _ 50 106 rfl i0 Tryz.underlying50 hi0 hz0 hz1 hz2 W.heap.size _ (⟨2,tr⟩ :: (ps.take i).map (fun p=>⟨3,p⟩)) rfl (HO.out.below (new_below _ _)) ⟨wr.heap.size,0,none⟩ ⟨3,y⟩ rfl (two_new (w:=wr) ⟨3,y⟩ 106) (by simp;omega) (by simp;omega) ?_;intro v3 w3 hown3 hb3))
       go_roundw
       case rel =>
        refine ⟨i + 1,by omega,by go_num,.inr ?_,(HBL.out.alloc hsz _).trans hb3⟩
        rw [HTK.out]
        simpa using hown3
       case measure=>simp [intOf];omega
      ·obtain rfl:i=n:=by omega
       have i1:decide ((i:Int) < (i:Int))=false:=decide_eq_false (by omega)
       go_wp2
       go_ret2
       refine (HT.out _ _).2 ⟨_,by rw [HL.out] <;> rfl,?_,below2 (below2 HB1.out HBW.out) HBL.out⟩
       rw [HL.out]
       have:=HO.out.row
       rw [← HN.out,List.take_length] at this
       exact this
    ·have z1:(z != 0)=true:=by simpa using h0
     rw [if_neg h0] at HL
     have HG2:Hid (∀ w,Calls Tryz.prog 72 #[.string Y] w fun e w'=>e=.returned (.tuple #[.agg #[.string ⟨#[]⟩,.slice none 0 0,.string ⟨#[]⟩,.int .u64 0,.string ⟨#[]⟩],.int .i64 z])∧Below w.heap.size w w'):=hideIt (fun w=>(HG.out w).mono (by
      rintro e w' ⟨c,rfl,h1,h2,h3,h4⟩
      rw [h3 (by rw [HZ.out];exact h0),HZ.out]
      exact ⟨rfl,h4⟩))
     clear HG hz HZ
     go_enter Tryz.func32,Tryz.ntmps32
     go_wp2_with (first
      | (go_at_call 70;refine HS.out.mono ?_;rintro e w0 ⟨rfl,hb0⟩;have HB0:=hideIt (below2 hb0 (HBE.out w0));clear hb0)
      | (go_at_call 72;refine (HG2.out _).mono ?_;rintro e w1 ⟨rfl,hb1⟩))
     go_ret2
     exact (HT.out _ _).2 ⟨.slice none 0 0,by rw [HL.out] <;> rfl,by rw [HL.out];exact LRow.nil _,below2 (below2 HB0.out hb1) (new_below _ _)⟩
   ·have q3:(k == 3)=false:=by simpa using k3
    rw [if_neg k3] at HL
    by_cases k4:k=4
    ·subst k4
     rw [if_pos rfl] at HL
     unfold tagLk at HL
     have HG:=hideIt (fun w=>refgetTag_any b w (by omega))
     obtain ⟨Y,hY⟩:∃ S,bs b=S:=⟨_,rfl⟩
     rw [hY] at HG HS
     obtain ⟨t,ht⟩:∃ t,(gT b).1=t:=⟨_,rfl⟩
     obtain ⟨z,hz⟩:∃ z,(gT b).2=z:=⟨_,rfl⟩
     rw [ht,hz] at HG HL
     obtain ⟨tgt,kd,nm,tx⟩:=t
     unfold tgV at HG
     simp only at HG HL
     have HB:Hid (∀ (w1:World),TBox (w1.alloc (.cells #[.string tgt,.int .i64 kd,.string nm,.string tx] 112)) w1.heap.size 112 ⟨tgt,kd,nm,tx⟩):=hideIt (fun w1=>TBox.new w1 112 ⟨tgt,kd,nm,tx⟩)
     clear hY ht hz hL hbl
     by_cases h0:z=0
     ·subst h0
      rw [if_pos rfl] at HL
      go_enter Tryz.func32,Tryz.ntmps32
      go_wp2_with (first
       | (go_at_call 70;refine HS.out.mono ?_;rintro e w0 ⟨rfl,hb0⟩;have HB0:=hideIt (below2 hb0 (HBE.out w0));clear hb0)
       | (go_at_call 73;refine (HG.out _).mono ?_;rintro e w1 ⟨rfl,hb1⟩;have T1:=hideIt (HB.out w1);have c0:=T1.out.c0;have c1:=T1.out.c1;dsimp only at c0 c1)
       | (at_builtin;refine append_lk _ rfl _ _ 50 106 rfl i0 Tryz.underlying50 hi0 hz0 hz1 hz2 w1.heap.size _ [] rfl (.inl ⟨rfl,_,rfl⟩) ⟨w1.heap.size + 1,0,none⟩ ⟨kd,tgt⟩ rfl (by
         intro j u h
         have:=two_new (w:=w1.alloc (.cells #[.string tgt,.int .i64 kd,.string nm,.string tx] 112)) ⟨kd,tgt⟩ 106 j u h
         simpa using this) (by simp) (by simp;omega) ?_;intro v3 w3 hown3 hb3))
      go_ret2
      exact (HT.out _ _).2 ⟨v3,by rw [HL.out] <;> rfl,by rw [HL.out];exact LRow.of_row (l:=[⟨kd,tgt⟩]) hown3,below2 (below2 HB0.out hb1) ((below2 (new_below _ _) (new_below _ _)).trans hb3)⟩
     ·have z1:(z != 0)=true:=by simpa using h0
      rw [if_neg h0] at HL
      go_enter Tryz.func32,Tryz.ntmps32
      go_wp2_with (first
       | (go_at_call 70;refine HS.out.mono ?_;rintro e w0 ⟨rfl,hb0⟩;have HB0:=hideIt (below2 hb0 (HBE.out w0));clear hb0)
       | (go_at_call 73;refine (HG.out _).mono ?_;rintro e w1 ⟨rfl,hb1⟩))
      go_ret2
      exact (HT.out _ _).2 ⟨.slice none 0 0,by rw [HL.out] <;> rfl,by rw [HL.out];exact LRow.nil _,below2 (below2 HB0.out hb1) (new_below _ _)⟩
    ·have q4:(k == 4)=false:=by simpa using k4
     rw [if_neg k4] at HL
     go_enter Tryz.func32,Tryz.ntmps32
     go_wp2_with (first
      | (go_at_call 70;refine HS.out.mono ?_;rintro e w0 ⟨rfl,hb0⟩;have HB0:=hideIt (below2 hb0 (HBE.out w0));clear hb0))
     go_ret2
     exact (HT.out _ _).2 ⟨_,by rw [HL.out] <;> rfl,by rw [HL.out];exact LOwn.row (B:=0) (t:=0) (.inl ⟨rfl,_,rfl⟩),HB0.out⟩
 ·have z1:(z != 0)=true:=by simpa using h0
  rw [if_neg h0] at HL
  go_enter Tryz.func32,Tryz.ntmps32
  go_wp2_with (first
   | (go_at_call 70;refine HS.out.mono ?_;rintro e w0 ⟨rfl,hb0⟩;have HB0:=hideIt (below2 hb0 (HBE.out w0));clear hb0))
  go_ret2
  exact (HT.out _ _).2 ⟨.slice none 0 0,by rw [HL.out] <;> rfl,by rw [HL.out];exact LRow.nil _,HB0.out⟩
end Ob
end Go.Proofs.YtogjlepdejonpaaGreatDoor
