/-
  SpecTok SpecColon SpecStarts
-/
import Derived.Test.YtbigfeblomfflaaGreatDoorB6
import Derived.Deep.RegionHeld3
set_option maxHeartbeats 2000000
namespace Go.Proofs.YtbigfeblomfflaaGreatDoor
namespace SpecTok
open Go.RowKit
open Strs
theorem letter_any (c:UInt8) (w:World):
  Calls Tryz.prog 99 #[.int .u8 (c.toNat:Int)] w fun e w'=>e=.returned (.bool (Tok.letter c))/\w=w':=by
 have H:(Hid (Tok.letter c=true)/\(97:Int)<=c.toNat/\(c.toNat:Int)<=122)\/(Hid (Tok.letter c=false)/\(97:Int)<=c.toNat/\¬(c.toNat:Int)<=122/\¬(c.toNat:Int)<=90) \/
   (Hid (Tok.letter c=true)/\¬(97:Int)<=c.toNat/\(65:Int)<=c.toNat/\(c.toNat:Int)<=90)\/(Hid (Tok.letter c=false)/\¬(97:Int)<=c.toNat/\(65:Int)<=c.toNat/\¬(c.toNat:Int)<=90) \/
   (Hid (Tok.letter c=false)/\¬(97:Int)<=c.toNat/\¬(65:Int)<=c.toNat):=by
  by_cases h1:97<=c.toNat
  ·by_cases h2:c.toNat<=122
   ·exact .inl ⟨(by show Tok.letter c=true;simp[Tok.letter,h1,h2]),by omega,by omega⟩
   ·exact .inr (.inl ⟨(by show Tok.letter c=false;simp[Tok.letter,h2];omega),by omega,by omega,by omega⟩)
  ·by_cases h3:65<=c.toNat
   ·by_cases h4:c.toNat<=90
    ·exact .inr (.inr (.inl ⟨(by show Tok.letter c=true;simp[Tok.letter,h3,h4]),by omega,by omega,by omega⟩))
    ·exact .inr (.inr (.inr (.inl ⟨(by show Tok.letter c=false;simp[Tok.letter,h1,h4]),by omega,by omega,by omega⟩)))
   ·exact .inr (.inr (.inr (.inr ⟨(by show Tok.letter c=false;simp[Tok.letter,h1,h3]),by omega,by omega⟩)))
 rcases H with ⟨H,h1,h2⟩|⟨H,h1,h2,h3⟩|⟨H,h1,h2,h3⟩|⟨H,h1,h2,h3⟩|⟨H,h1,h2⟩
 all_goals
  generalize c.toNat=n at *;go_enter Tryz.func99,Tryz.ntmps99
  go_wp2
  go_ret;exact ⟨by rw[H.out];rfl,rfl⟩
theorem digit_any (c:UInt8) (w:World):
  Calls Tryz.prog 101 #[.int .u8 (c.toNat:Int)] w fun e w'=>e=.returned (.bool (Tok.digit c))/\w=w':=by
 have H:(Hid (Tok.digit c=true)/\(48:Int)<=c.toNat/\(c.toNat:Int)<=57)\/(Hid (Tok.digit c=false)/\(48:Int)<=c.toNat/\¬(c.toNat:Int)<=57)\/(Hid (Tok.digit c=false)/\¬(48:Int)<=c.toNat):=by
  by_cases h1:48<=c.toNat
  ·by_cases h2:c.toNat<=57
   ·exact .inl ⟨(by show Tok.digit c=true;simp[Tok.digit,h1,h2]),by omega,by omega⟩
   ·exact .inr (.inl ⟨(by show Tok.digit c=false;simp[Tok.digit,h2]),by omega,by omega⟩)
  ·exact .inr (.inr ⟨(by show Tok.digit c=false;simp[Tok.digit,h1]),by omega⟩)
 rcases H with ⟨H,h1,h2⟩|⟨H,h1,h2⟩|⟨H,h1⟩
 all_goals
  generalize c.toNat=n at *;go_enter Tryz.func101,Tryz.ntmps101
  go_wp2
  go_ret;exact ⟨by rw[H.out];rfl,rfl⟩
def List (xs:_root_.List ByteArray) (w:World) (e:Ending) (w':World):Prop:=∃ a c,e=.returned (.slice a xs.length c)/\At w' (.slice a xs.length c) xs/\Below w.heap.size w w'
theorem list_at (w:World) (C:Array Value) (xs:_root_.List ByteArray) (n:Nat) (hn:xs.length=n) (hm:n<=1048576) (hC:∀ j,j<n->C[j]?=some (.string (xs.getD j ByteArray.empty))):
  List xs w (.returned (.slice (some ⟨w.heap.size,0,none⟩) n n)) (w.alloc (.cells C 9)):=by
 subst hn;refine ⟨_,_,rfl,⟨_,_,rfl,by unfold maxLen;omega,fun _=>⟨_,0,rfl,fun j hj=>?_⟩⟩,(zB _ _).alloc (zL _) _⟩
 rw[Nat.zero_add,World.cell?_alloc_mark w _ _ (0,0) j];exact hC j hj
theorem words_any (w:World):Calls Tryz.prog 67 #[] w (List Tok.words w):=by
 go_enter Tryz.func67,Tryz.ntmps67
 go_wp2
 go_ret;refine list_at w _ Tok.words 7 rfl (by omega) (fun j hj=>?_)
 obtain rfl|rfl|rfl|rfl|rfl|rfl|rfl:j=0\/j=1\/j=2\/j=3\/j=4\/j=5\/j=6:=by omega
 all_goals rfl
theorem zae (w:World):Calls Tryz.prog 98 #[] w (List Tok.binaries w):=by
 go_enter Tryz.func98,Tryz.ntmps98
 go_wp2
 go_ret;refine list_at w _ Tok.binaries 15 rfl (by omega) (fun j hj=>?_)
 obtain rfl|rfl|rfl|rfl|rfl|rfl|rfl|rfl|rfl|rfl|rfl|rfl|rfl|rfl|rfl:j=0\/j=1\/j=2\/j=3\/j=4\/j=5\/j=6\/j=7\/j=8\/j=9\/j=10\/j=11\/j=12\/j=13\/j=14:=by omega
 all_goals rfl
theorem has_any (v:Value) (xs:_root_.List ByteArray) (s:ByteArray) (w:World) (h:At w v xs):
  Calls Tryz.prog 66 #[v,.string s] w fun e w'=>e=.returned (.bool (Tok.has xs s))/\w=w':=by
 obtain ⟨a,cap,rfl,hm,hc⟩:=h;unfold maxLen at hm;have HC:=zH hc;clear hc;generalize hn:xs.length=n at *;have HN:=zH hn;clear hn;go_enter Tryz.func66,Tryz.ntmps66;go_wp2_with fail
 go_loop [5] (fun j=>∃ i:Nat,i<=n/\j=.int .i64 i/\∀ k (hk:k<xs.length),k<i->(xs[k].toList==s.toList)=false) (fun j=>n-(intOf j).toNat)
 case atStart=>exact ⟨0,by omega,rfl,fun k hk h=>by omega⟩
 case round=>
  obtain ⟨i,hi,rfl,hno⟩:=hrel;have HNO:=zH hno;clear hno;by_cases hlt:i<n
  ·obtain ⟨b,off,rfl,hcell⟩:=HC.out (by omega)
   have hil:i<xs.length:=by rw[HN.out];exact hlt
   have hci:=hcell i hlt;have HX:Hid (xs.getD i ByteArray.empty=xs[i]):=by show _=_;simp[_root_.List.getD,hil]
   rw[HX.out] at hci;clear hcell;by_cases he:(xs[i].toList==s.toList)=true
   ·have HR:Hid (Tok.has xs s=true):=Tok.has_at xs s i hil he
    clear HX;generalize xs[i]=x at *;go_wp2_with fail
    go_ret;exact ⟨by rw[HR.out];rfl,rfl⟩
   ·have hf:(xs[i].toList==s.toList)=false:=by simpa using he
    have HF:Hid (∀ k (hk:k<xs.length),k<i+1->(xs[k].toList==s.toList)=false):=by
     intro k hk h1;by_cases h2:k=i
     ·subst h2;exact hf
     ·exact HNO.out k hk (by omega)
    clear he HX;generalize xs[i]=x at *;go_wp2_with fail
    go_round
    case rel=>exact ⟨i+1,by omega,by go_num,HF.out⟩
    case measure=>simp[intOf];omega
  ·have HR:Hid (Tok.has xs s=false):=Tok.has_not xs s fun k hk=>HNO.out k hk (by have:=HN.out;omega)
   go_wp2_with fail
   go_ret;exact ⟨by rw[HR.out];rfl,rfl⟩
theorem zaa (s:ByteArray):s.data.toList.length=s.size:=by rw[Array.length_toList];rfl
theorem za0 (c:UInt8) (b:Bool) (w:World) (h:Tok.letter c=b):
  Calls Tryz.prog 99 #[.int .u8 (c.toNat:Int)] w fun e w'=>e=.returned (.bool b)/\w=w':=by subst h;exact letter_any c w
theorem digit_is (c:UInt8) (b:Bool) (w:World) (h:Tok.digit c=b):
  Calls Tryz.prog 101 #[.int .u8 (c.toNat:Int)] w fun e w'=>e=.returned (.bool b)/\w=w':=by subst h;exact digit_any c w
theorem run_any (s:ByteArray) (A:Int) (at_:Nat) (w:World) (hA:A=at_) (hl:at_<=s.size) (hs:s.size<=maxLen):
  Calls Tryz.prog 160 #[.string s,.int .i64 A] w fun e w'=>e=.returned (.int .i64 (Tok.run s.data.toList at_:Nat))/\w=w':=by
 subst hA;unfold maxLen at hs;go_enter Tryz.func160,Tryz.ntmps160;go_wp2_with fail
 go_loop [1] (fun j=>∃ i:Nat,i<=s.size/\j=.int .i64 i/\Tok.run s.data.toList at_=Tok.run s.data.toList i) (fun j=>s.size-(intOf j).toNat)
 case atStart=>exact ⟨at_,hl,rfl,rfl⟩
 case round=>
  obtain ⟨i,hi,rfl,hr⟩:=hrel;have HR:=zH hr;clear hr;by_cases hlt:i<s.size
  ·have hlt':i<s.data.toList.length:=by rw[zaa];exact hlt
   have hx:s.data.toList[i]'hlt'=s[i]'hlt:=rfl;have HS:Hid (Tok.alnum (s[i]'hlt)=true->Tok.run s.data.toList at_=Tok.run s.data.toList (i+1)):=fun h=>HR.out.trans (Tok.run_go _ i hlt' (by rw[hx];exact h))
   have HN:Hid (Tok.alnum (s[i]'hlt)=false->Tok.run s.data.toList at_=i):=fun h=>HR.out.trans (Tok.run_stop _ i (fun h'=>by rw[hx];exact h))
   clear hx;by_cases h1:Tok.letter (s[i]'hlt)=true
   ·have K1:=fun w=>zH (za0 (s[i]'hlt) true w h1)
    have HA:Hid (Tok.alnum (s[i]'hlt)=true):=by show _=_;unfold Tok.alnum;rw[h1];rfl
    clear h1;go_wp2_with fail
    refine (K1 w).out.mono ?_;rintro e w1 ⟨rfl,rfl⟩;go_wp2_with fail
    go_round
    case rel=>exact ⟨i+1,by omega,by go_num,HS.out HA.out⟩
    case measure=>simp[intOf];omega
   ·rw[Bool.not_eq_true] at h1
    have K1:=fun w=>zH (za0 (s[i]'hlt) false w h1)
    by_cases h2:Tok.digit (s[i]'hlt)=true
    ·have K2:=fun w=>zH (digit_is (s[i]'hlt) true w h2)
     have HA:Hid (Tok.alnum (s[i]'hlt)=true):=by show _=_;unfold Tok.alnum;rw[h1,h2];rfl
     clear h1 h2;go_wp2_with fail
     refine (K1 w).out.mono ?_;rintro e w1 ⟨rfl,rfl⟩;go_wp2_with fail
     refine (K2 w).out.mono ?_;rintro e w1 ⟨rfl,rfl⟩;go_wp2_with fail
     go_round
     case rel=>exact ⟨i+1,by omega,by go_num,HS.out HA.out⟩
     case measure=>simp[intOf];omega
    ·rw[Bool.not_eq_true] at h2
     have K2:=fun w=>zH (digit_is (s[i]'hlt) false w h2)
     have HA:Hid (Tok.alnum (s[i]'hlt)=false):=by show _=_;unfold Tok.alnum;rw[h1,h2];rfl
     clear h1 h2;go_wp2_with fail
     refine (K1 w).out.mono ?_;rintro e w1 ⟨rfl,rfl⟩;go_wp2_with fail
     refine (K2 w).out.mono ?_;rintro e w1 ⟨rfl,rfl⟩;go_wp2_with fail
     go_ret;exact ⟨by rw[HN.out HA.out];rfl,rfl⟩
  ·have HE:Hid (Tok.run s.data.toList at_=i):=HR.out.trans (Tok.run_stop _ i (fun h'=>by rw[zaa] at h';omega))
   go_wp2_with fail
   go_ret;exact ⟨by rw[HE.out];rfl,rfl⟩
end SpecTok
namespace SpecTok
open Go.RowKit
open Strs
theorem marks_any (w:World):Calls Tryz.prog 97 #[] w (List Tok.marks w):=by
 go_enter Tryz.func97,Tryz.ntmps97
 go_wp2
 go_ret;refine list_at w _ Tok.marks 10 rfl (by omega) (fun j hj=>?_)
 obtain rfl|rfl|rfl|rfl|rfl|rfl|rfl|rfl|rfl|rfl:j=0\/j=1\/j=2\/j=3\/j=4\/j=5\/j=6\/j=7\/j=8\/j=9:=by omega
 all_goals rfl
theorem colon_spell (s:ByteArray) (i:Nat):Tok.colon s.data.toList i=(decide (∃ h:i<s.size,((s[i]'h).toNat:Int)=58)&&!decide (∃ h:i+1<s.size,((s[i+1]'h).toNat:Int)=61)):=by
 have key:∀ (j:Nat) (b:UInt8),(s.data.toList[j]?==some b)=decide (∃ h:j<s.size,((s[j]'h).toNat:Int)=(b.toNat:Int)):=by
  intro j b;by_cases h:j<s.size
  ·have h':j<s.data.toList.length:=by rw[zaa];exact h
   have hx:s.data.toList[j]'h'=s[j]'h:=rfl;rw[_root_.List.getElem?_eq_getElem h',hx,Bool.eq_iff_iff,beq_iff_eq,decide_eq_true_eq];constructor
   ·intro e;rw[Option.some.injEq] at e;exact ⟨h,by rw[e]⟩
   ·rintro ⟨_,e⟩;rw[Option.some.injEq];exact UInt8.toNat_inj.1 (by omega)
  ·rw[_root_.List.getElem?_eq_none (by rw[zaa];omega),eq_comm]
   simp[h]
 unfold Tok.colon;rw[key i 58,key (i+1) 61];rfl
theorem colon_any (s:ByteArray) (A:Int) (i:Nat) (w:World) (hA:A=i) (hl:i<=s.size) (hs:s.size<=1048576):
  Calls Tryz.prog 161 #[.string s,.int .i64 A] w fun e w'=>e=.returned (.bool (Tok.colon s.data.toList i))/\w=w':=by
 subst hA;have HC:=zH (colon_spell s i);by_cases h0:i<s.size
 ·by_cases h1:((s[i]'h0).toNat:Int)=58
  ·by_cases h2:i+1<s.size
   ·by_cases h3:((s[i+1]'h2).toNat:Int)=61
    ·have HV:Hid (Tok.colon s.data.toList i=false):=by show _=_;rw[HC.out,decide_eq_true (⟨h2,h3⟩:∃ h:i+1<s.size,_)];simp
     have t1:(((s[i]'h0).toNat:Int)==58)=true:=by simpa using h1
     have t2:(((s[i+1]'h2).toNat:Int) != 61)=false:=by simpa using h3
     have t3:¬(s.size:Int)<=(i:Int)+1:=by omega
     clear h1 h3;go_enter Tryz.func161,Tryz.ntmps161;go_wp2_with fail
     go_ret;exact ⟨by rw[HV.out];rfl,rfl⟩
    ·have HV:Hid (Tok.colon s.data.toList i=true):=by
      show _=_;rw[HC.out,decide_eq_true (⟨h0,h1⟩:∃ h:i<s.size,_),decide_eq_false (fun ⟨_,h⟩=>h3 h)];rfl
     have t1:(((s[i]'h0).toNat:Int)==58)=true:=by simpa using h1
     have t2:(((s[i+1]'h2).toNat:Int) != 61)=true:=by simpa using h3
     have t3:¬(s.size:Int)<=(i:Int)+1:=by omega
     clear h1 h3;go_enter Tryz.func161,Tryz.ntmps161;go_wp2_with fail
     go_ret;exact ⟨by rw[HV.out];rfl,rfl⟩
   ·have HV:Hid (Tok.colon s.data.toList i=true):=by
     show _=_;rw[HC.out,decide_eq_true (⟨h0,h1⟩:∃ h:i<s.size,_),decide_eq_false (fun ⟨h,_⟩=>h2 h)];rfl
    have t1:(((s[i]'h0).toNat:Int)==58)=true:=by simpa using h1
    have t3:(s.size:Int)<=(i:Int)+1:=by omega
    clear h1;go_enter Tryz.func161,Tryz.ntmps161;go_wp2_with fail
    go_ret;exact ⟨by rw[HV.out];rfl,rfl⟩
  ·have HV:Hid (Tok.colon s.data.toList i=false):=by
    show _=_;rw[HC.out,decide_eq_false (fun ⟨_,h⟩=>h1 h)];rfl
   have t1:(((s[i]'h0).toNat:Int)==58)=false:=by simpa using h1
   clear h1;go_enter Tryz.func161,Tryz.ntmps161;go_wp2_with fail
   go_ret;exact ⟨by rw[HV.out];rfl,rfl⟩
 ·have HV:Hid (Tok.colon s.data.toList i=false):=by
   show _=_;rw[HC.out,decide_eq_false (fun ⟨h,_⟩=>h0 h)];rfl
  have t3:¬(i:Int)<(s.size:Int):=by omega
  go_enter Tryz.func161,Tryz.ntmps161;go_wp2_with fail
  go_ret;exact ⟨by rw[HV.out];rfl,rfl⟩
end SpecTok
namespace SpecStarts
open Go.RowKit
open Strs SpecTok
theorem zaz (s:ByteArray) (A:Int) (p:Nat) (v:Value) (xs:_root_.List ByteArray) (w:World) (hA:A=p) (hp:p<=s.size) (hs:s.size<=1048576) (hx:xs.length<=1048576) (hsz:∀ x∈xs,x.size<=1048576) (h:At w v xs):
  Calls Tryz.prog 96 #[.string s,.int .i64 A,v] w fun e w'=>e=.returned (.string (Tok.starts s p xs))/\Below w.heap.size w w':=by
 subst hA;obtain ⟨a,cap,rfl,hm,hc⟩:=h;have HC:=zH hc;clear hc;have HSZ:=zH hsz;clear hsz;generalize hn:xs.length=n at *;have HN:=zH hn;clear hn;go_enter Tryz.func96,Tryz.ntmps96;go_wp2_with fail
 go_loopw [7] (fun j wr=>∃ i:Nat,i<=n/\j=.int .i64 i/\(∀ k (hk:k<xs.length),k<i->Tok.begins s p xs[k]=false)/\Below w.heap.size w wr) (fun j _=>n-(intOf j).toNat)
 case atStart=>exact ⟨0,by omega,rfl,fun k hk h=>by omega,zB _ _⟩
 case round=>
  obtain ⟨i,hi,rfl,hno,hbw⟩:=hrel;have HNO:=zH hno;clear hno;by_cases hlt:i<n
  ·obtain ⟨b,off,rfl,hcell⟩:=HC.out (by omega)
   have hil:i<xs.length:=by rw[HN.out];exact hlt
   have hci:=cell_keep hbw (hcell i hlt);have HX:Hid (xs.getD i ByteArray.empty=xs[i]):=by show _=_;simp[_root_.List.getD,hil]
   rw[HX.out] at hci;clear hcell HX;have hxs:xs[i].size<=1048576:=HSZ.out _ (_root_.List.getElem_mem hil)
   have HF:Hid (Tok.begins s p xs[i]=false->∀ k (hk:k<xs.length),k<i+1->Tok.begins s p xs[k]=false):=by
    intro hf k hk h1;by_cases h2:k=i
    ·subst h2;exact hf
    ·exact HNO.out k hk (by omega)
   have HT:Hid (Tok.begins s p xs[i]=true->Tok.starts s p xs=xs[i]):=fun hb=>Tok.starts_at s p xs i hil hb fun j hj h=>HNO.out j hj h
   generalize xs[i]=x at *;by_cases hle:(p:Int)+(x.size:Int)<=(s.size:Int)
   ·by_cases he:((s.extract p (p+x.size)).toList==x.toList)=true
    ·have HB:Hid (Tok.begins s p x=true):=by show _=_;unfold Tok.begins;rw[he,decide_eq_true (show p+x.size<=s.size by omega)];rfl
     go_wp2_with fail
     go_quiet (fail)
     go_wp2_with fail
     go_ret;exact ⟨by rw[HT.out HB.out];rfl,below_drewN hbw _⟩
    ·rw[Bool.not_eq_true] at he
     have HB:Hid (Tok.begins s p x=false):=by show _=_;unfold Tok.begins;rw[he];simp
     go_wp2_with fail
     go_quiet (fail)
     go_wp2_with fail
     go_roundw
     case rel=>exact ⟨i+1,by omega,by go_num,HF.out HB.out,below_drewN hbw _⟩
     case measure=>simp[intOf];omega
   ·have hd:decide ((p:Int)+(x.size:Int)<=(s.size:Int))=false:=by simpa using hle
    have HB:Hid (Tok.begins s p x=false):=by show _=_;unfold Tok.begins;rw[decide_eq_false (show ¬p+x.size<=s.size by omega)];rfl
    go_wp2_with fail
    go_quiet (fail)
    go_wp2_with fail
    go_roundw
    case rel=>exact ⟨i+1,by omega,by go_num,HF.out HB.out,below_drewN hbw _⟩
    case measure=>simp[intOf];omega
  ·have HR:Hid (Tok.starts s p xs=ByteArray.empty):=Tok.starts_not s p xs fun j hj=>HNO.out j hj (by have:=HN.out;omega)
   go_wp2_with fail
   go_ret;exact ⟨by rw[HR.out];rfl,hbw⟩
end SpecStarts
end Go.Proofs.YtbigfeblomfflaaGreatDoor
