/- The document's reading of decimal digits, walked. -/
import Derived.Test.YtogjlepdejonpaaGreatDoorCbUndw
namespace Go.Proofs.YtogjlepdejonpaaGreatDoor.Cb
open Go.RowKit
theorem drop_oneD (s:ByteArray) (p:Nat) (h1:p < s.size):s.data.toList.drop p=s[p] :: s.data.toList.drop (p + 1):=by
 rw [List.drop_eq_getElem_cons (by rw [str_len];exact h1)]
 rfl
structure RdL (s:ByteArray) (k a:Nat):Prop where
 le:a≤Dd.M
 tells:Dd.okOf (Lib.parseUintM Dd.M 0 s.data.toList)=Dd.okOf (Lib.parseUintM Dd.M a (s.data.toList.drop k))
theorem RdL.other {s:ByteArray} {k a:Nat} (h:RdL s k a) (hk:k < s.size) (hd:¬ (48≤s[k].toNat∧s[k].toNat≤57)):Dd.okOf (Lib.parseUintM Dd.M 0 s.data.toList)=none:=by
 rw [h.tells,drop_oneD s k hk,Lib.parseUintM,if_neg hd];rfl
theorem RdL.over {s:ByteArray} {k a:Nat} (h:RdL s k a) (hk:k < s.size) (hd:48≤s[k].toNat∧s[k].toNat≤57) (ho:1844674407370955161 < a∨(a=1844674407370955161∧5 < s[k].toNat - 48)):Dd.okOf (Lib.parseUintM Dd.M 0 s.data.toList)=none:=by
 rw [h.tells,drop_oneD s k hk,Lib.parseUintM,if_pos hd]
 by_cases h2:1844674407370955162≤a
 ·rw [if_pos h2];rfl
 ·rw [if_neg h2,if_pos (by unfold Dd.M;omega)];rfl
theorem RdL.next {s:ByteArray} {k a:Nat} (h:RdL s k a) (hk:k < s.size) (hd:48≤s[k].toNat∧s[k].toNat≤57) (ho:¬ (1844674407370955161 < a∨(a=1844674407370955161∧5 < s[k].toNat - 48))):RdL s (k + 1) (a * 10 + (s[k].toNat - 48)):=by
 refine ⟨by unfold Dd.M;omega,?_⟩
 rw [h.tells,drop_oneD s k hk,Lib.parseUintM,if_pos hd,if_neg (by omega),if_neg (by unfold Dd.M;omega)]
theorem RdL.fin {s:ByteArray} {a:Nat} (h:RdL s s.size a):Dd.okOf (Lib.parseUintM Dd.M 0 s.data.toList)=some a:=by
 rw [h.tells,List.drop_of_length_le (by rw [str_len];exact Nat.le_refl _)];rfl
theorem head_of (s:ByteArray) (h:0 < s.size):s.data.toList.head? = some s[0]:=by
 have:=drop_oneD s 0 h
 rw [List.drop_zero] at this
 rw [this];rfl
set_option maxHeartbeats 800000 in
set_option maxRecDepth 100000 in
theorem refundec_any (s:ByteArray) (w:World) (hs:s.size≤1000000) :
  Calls Tryz.prog 119 #[.string s] w fun e w'=>e=.returned (udV (Dd.und s.data.toList))∧w'=w:=by
 by_cases h0:s.size=0
 ·have hs0:s=⟨#[]⟩:=by
   apply ByteArray.ext
   exact Array.eq_empty_of_size_eq_zero h0
  subst hs0
  have HE:Hid (Dd.und (⟨#[]⟩:ByteArray).data.toList=none):=hideIt (Dd.und_bad _ (Or.inl rfl))
  go_enter Tryz.func119,Tryz.ntmps119
  go_wp2
  go_ret2
  exact ⟨by rw [HE.out];rfl,rfl⟩
 ·have hpos:0 < s.size:=by omega
  have hne:s.data.toList≠[]:=fun e=>h0 (by rw [← str_len,e];rfl)
  have e1:(s.toList == [])=false:=by rw [ByteArray.toList_eq];simpa using hne
  have e2:s.toList.isEmpty=false:=by rw [ByteArray.toList_eq];simpa using hne
  have e3:¬ s.toList=[]:=by rw [ByteArray.toList_eq];exact hne
  by_cases h20:20 < s.size
  ·have HE:Hid (Dd.und s.data.toList=none):=hideIt (Dd.und_bad _ (Or.inr (Or.inl (by rw [str_len];exact h20))))
   have c1:(20:Int) < (s.size:Int):=by omega
   have c2:decide ((20:Int) < (s.size:Int))=true:=decide_eq_true c1
   go_enter Tryz.func119,Tryz.ntmps119
   go_wp2
   go_ret2
   exact ⟨by rw [HE.out];rfl,rfl⟩
  ·have c1:¬ (20:Int) < (s.size:Int):=by omega
   have c2:decide ((20:Int) < (s.size:Int))=false:=decide_eq_false c1
   have z0:(0:Int) < (s.size:Int):=by omega
   by_cases hh:1 < s.size∧s[0]=48
   ·have HE:Hid (Dd.und s.data.toList=none):=hideIt (Dd.und_bad _ (Or.inr (Or.inr ⟨by rw [str_len];exact hh.1,by rw [head_of s hpos,hh.2]⟩)))
    have d1:(1:Int) < (s.size:Int):=by omega
    have d2:decide ((1:Int) < (s.size:Int))=true:=decide_eq_true d1
    have d3:=hh.2
    have d4:=hh.1
    have d5:((s[0].toNat:Nat):Int)=48:=by rw [d3];rfl
    clear hh d3
    go_enter Tryz.func119,Tryz.ntmps119
    go_wp2
    go_ret2
    exact ⟨by rw [HE.out];rfl,rfl⟩
   ·have HG:Hid (Dd.und s.data.toList=Dd.okOf (Lib.parseUintM Dd.M 0 s.data.toList)):=hideIt (Dd.und_good _ (fun hb=>by
     rcases hb with hb | hb | ⟨hb1,hb2⟩
     ·exact hne hb
     ·rw [str_len] at hb;exact h20 hb
     ·rw [str_len] at hb1
      rw [head_of s hpos] at hb2
      exact hh ⟨hb1,Option.some.inj hb2⟩))
    have hcase:(decide ((1:Int) < (s.size:Int))=false∧¬ (1:Int) < (s.size:Int)∧¬ 1 < s.size)∨(decide ((1:Int) < (s.size:Int))=true∧(1:Int) < (s.size:Int)∧1 < s.size∧((((s[0].toNat:Nat):Int) == 48)=false∧¬ ((s[0].toNat:Nat):Int)=48)):=by
     by_cases h1:1 < s.size
     ·refine Or.inr ⟨decide_eq_true (by omega),by omega,h1,?_⟩
      have:¬ ((s[0].toNat:Nat):Int)=48:=fun e=>hh ⟨h1,UInt8.toNat_inj.1 (by have h48:(48:UInt8).toNat=48:=rfl;omega)⟩
      exact ⟨by simpa using this,this⟩
     ·exact Or.inl ⟨decide_eq_false (by omega),by omega,h1⟩
    obtain ⟨n,hn⟩:∃ n,s.size=n:=⟨_,rfl⟩
    have H0:Hid (RdL s 0 0):=hideIt ⟨by unfold Dd.M;omega,rfl⟩
    clear hh
    rcases hcase with ⟨d1,d2,d3⟩ | ⟨d1,d2,d3,d4,d5⟩
    all_goals
     go_enter Tryz.func119,Tryz.ntmps119
     go_wp2
     go_loop [4,5] (fun a t=>∃ k x:Nat,k≤n∧t=.int .i64 k∧a=.int .u64 x∧RdL s k x) (fun _ t=>n - (intOf t).toNat)
     case atStart=>exact ⟨0,0,by omega,rfl,rfl,H0.out⟩
     case round =>
      obtain ⟨k,x,hk,rfl,rfl,hr⟩:=hrel
      by_cases hlt:k < n
      ·have hks:k < s.size:=by omega
       have hid:decide ((k:Int) < (s.size:Int))=true:=by simp;omega
       have a1:(0:Int)≤(k:Int):=by omega
       have a2:(k:Int) < (s.size:Int):=by omega
       have hbl:=s[k].toNat_lt
       by_cases hd:48≤s[k].toNat∧s[k].toNat≤57
       ·have b1:¬ ((s[k].toNat:Nat):Int) < 48:=by omega
        have b1d:decide (((s[k].toNat:Nat):Int) < 48)=false:=decide_eq_false b1
        have b2:¬ (57:Int) < ((s[k].toNat:Nat):Int):=by omega
        have b2d:decide ((57:Int) < ((s[k].toNat:Nat):Int))=false:=decide_eq_false b2
        have b3:(48:Int)≤((s[k].toNat:Nat):Int):=by omega
        have xl:=hr.le
        unfold Dd.M at xl
        have x64:(x:Int) < 18446744073709551616:=by omega
        obtain ⟨d,hdd⟩:∃ d,s[k].toNat - 48=d:=⟨_,rfl⟩
        have e5:((s[k].toNat:Nat):Int) - 48=(d:Int):=by omega
        have e6:(d:Int) < 10:=by omega
        by_cases ho:1844674407370955161 < x∨(x=1844674407370955161∧5 < s[k].toNat - 48)
        ·have HE:Hid (Dd.und s.data.toList=none):=hideIt (by rw [HG.out];exact hr.over hks hd ho)
         rw [hdd] at ho
         clear hr hd hdd
         rcases ho with ho | ⟨ho,ho2⟩
         ·have f1:(1844674407370955161:Int) < (x:Int):=by omega
          have f2:decide ((1844674407370955161:Int) < (x:Int))=true:=decide_eq_true f1
          go_wp2
          go_ret2
          exact ⟨by rw [HE.out];rfl,rfl⟩
         ·subst ho
          have f1:(5:Int) < (d:Int):=by omega
          have f2:decide ((5:Int) < (d:Int))=true:=decide_eq_true f1
          go_wp2
          go_ret2
          exact ⟨by rw [HE.out];rfl,rfl⟩
        ·have HN:=hideIt (hr.next hks hd ho)
         rw [hdd] at HN ho
         have g1:¬ (1844674407370955161:Int) < (x:Int):=by omega
         have g1d:decide ((1844674407370955161:Int) < (x:Int))=false:=decide_eq_false g1
         have g0:(x:Int)≤1844674407370955161:=by omega
         have gs:(x:Int) * 10 + (d:Int) < 18446744073709551616:=by omega
         have gcase:(((x:Int) == 1844674407370955161)=false∧¬ (x:Int)=1844674407370955161)∨(x=1844674407370955161∧decide ((5:Int) < (d:Int))=false∧¬ (5:Int) < (d:Int)):=by
          by_cases hx:x=1844674407370955161
          ·exact Or.inr ⟨hx,decide_eq_false (by omega),by omega⟩
          ·refine Or.inl ⟨?_,by omega⟩
           have:¬ (x:Int)=1844674407370955161:=by omega
           simpa using this
         clear hr hd hdd ho
         rcases gcase with ⟨f1,f2⟩ | ⟨f0,f1,f2⟩
         ·go_wp2
          go_round
          case rel=>exact ⟨k + 1,_,by omega,by go_num,by go_num,HN.out⟩
          case measure=>simp [intOf];omega
         ·subst f0
          go_wp2
          go_round
          case rel=>exact ⟨k + 1,_,by omega,by go_num,by go_num,HN.out⟩
          case measure=>simp [intOf];omega
       ·have HE:Hid (Dd.und s.data.toList=none):=hideIt (by rw [HG.out];exact hr.other hks hd)
        have bcase:(decide (((s[k].toNat:Nat):Int) < 48)=true∧((s[k].toNat:Nat):Int) < 48)∨(decide (((s[k].toNat:Nat):Int) < 48)=false∧¬ ((s[k].toNat:Nat):Int) < 48∧decide ((57:Int) < ((s[k].toNat:Nat):Int))=true∧(57:Int) < ((s[k].toNat:Nat):Int)):=by
         by_cases hc:((s[k].toNat:Nat):Int) < 48
         ·exact Or.inl ⟨decide_eq_true hc,hc⟩
         ·exact Or.inr ⟨decide_eq_false hc,hc,decide_eq_true (by omega),by omega⟩
        clear hr hd
        rcases bcase with ⟨f1,f2⟩ | ⟨f1,f2,f3,f4⟩
        ·go_wp2
         go_ret2
         exact ⟨by rw [HE.out];rfl,rfl⟩
        ·go_wp2
         go_ret2
         exact ⟨by rw [HE.out];rfl,rfl⟩
      ·obtain rfl:k=n:=by omega
       have hid:decide ((k:Int) < (s.size:Int))=false:=decide_eq_false (by omega)
       have hid2:¬ k < s.size:=by omega
       have HE:Hid (Dd.und s.data.toList=some x):=hideIt (by rw [HG.out];rw [← hn] at hr;exact hr.fin)
       clear hr
       go_wp2
       go_ret2
       exact ⟨by rw [HE.out];rfl,rfl⟩
end Go.Proofs.YtogjlepdejonpaaGreatDoor.Cb
