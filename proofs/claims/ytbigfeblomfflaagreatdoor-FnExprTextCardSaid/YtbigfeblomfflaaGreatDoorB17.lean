/-
  SpecSplit SpecName SpecSel
-/
import Derived.Test.YtbigfeblomfflaaGreatDoorB30
set_option maxHeartbeats 2000000
namespace Go.Proofs.YtbigfeblomfflaaGreatDoor
namespace SpecSplit
open Go.RowKit
open ImplSplit
theorem split_any (s:ByteArray) (b:Int) (w:World) (hs:s.size<=1048576):
  Calls Tryz.prog 139 #[.string s,.int .u8 b] w (Made w (Cuts.parts s b)):=by
 obtain ⟨i0,hi,hz0,hz1,hz2⟩:=info_parts info9;go_enter Tryz.func139,Tryz.ntmps139;go_wp2_with fail
 go_loopw [5,6,7] (fun v f j wr=>∃ (i:Nat) (xs:List ByteArray) (k:Nat),i<=s.size+1/\(i<=s.size->Cuts.cuts s b i=(xs,k))/\(i=s.size+1->Cuts.parts s b=xs)/\k<=i/\xs.length<=i/\j=.int .i64 i/\f=.int .i64 k /\
   wr.ownsRow w.heap.size 9 1 v xs.length (xs.map Value.string)/\Below w.heap.size w wr)
  (fun _ _ j _=>s.size+1-(intOf j).toNat)
 case atStart=>exact ⟨0,[],0,by omega,fun _=>rfl,fun h=>by omega,by omega,by simp,rfl,rfl,World.ownsRow_lit w #[] 0 (zL _) (Nat.zero_le _) rfl,(zB _ _).alloc (zL _) _⟩
 case round=>
  obtain ⟨i,xs,f,hi',hc,hp,hf,hl,rfl,rfl,hown,hbw⟩:=hrel;have HC:=zH hc;clear hc;have HP:=zH hp;clear hp;by_cases hend:i=s.size+1
  ·have hgt:¬(i:Int)<=(s.size:Int):=by omega
   have HE:=zH hend;clear hend;go_wp2_with fail
   go_ret;exact ⟨_,rfl,by rw[HP.out HE.out];exact hown,hbw⟩
  ·have hle:(i:Int)<=(s.size:Int):=by omega
   by_cases hlast:i=s.size
   ·have he:((i:Int)==(s.size:Int))=true:=by rw[beq_iff_eq];omega
    have HN:Hid (Cuts.parts s b=xs++[s.extract f i]):=by
     have:=HC.out (by omega);subst hlast;show _=_
     rw[Cuts.parts,this]
    have HL:=zH hlast;clear hlast hend;go_wp2_with (at_builtin;refine wpList_append_own _ rfl _ _ 24 rfl w.heap.size 9 i0 (.string ByteArray.empty) 1 16 Tryz.underlying24 hi hz0 hz1 hz2 rfl (by decide) _ _ _ rfl (hown.alloc _) ⟨wr.heap.size,0,none⟩ 1 1 [.string (s.extract f i)] rfl rfl ?c1 ?c2 ?c3 ?c4 ?c5 ?_)
    case c1=>exact Kit.one_cells _ _ _
    case c2=>exact Kit.one_str _
    case c3=>unfold maxLen;omega
    case c4=>omega
    case c5=>have:=hbw.size;simp;omega
    intro v' w1 hown' hgr _;have hb1:=Kit.app_below (zL _) hbw hown hgr;clear hgr hown;go_wp2_with fail
    go_roundw
    case rel=>exact ⟨i+1,_,i+1,by omega,fun h=>by have:=HL.out;omega,fun _=>HN.out,by omega,by simp;omega,by go_num,by go_num,by simpa using hown',hb1⟩
    case measure=>simp[intOf];have:=HL.out;omega
   ·have hlt:i<s.size:=by omega
    have he:((i:Int)==(s.size:Int))=false:=by rw[beq_eq_false_iff_ne];omega
    clear hlast hend;by_cases hb:((s[i]'hlt).toNat:Int)=b
    ·have HN:Hid (Cuts.cuts s b (i+1)=(xs++[s.extract f i],i+1)):=by
      show _=_
      rw[Cuts.cuts_hit s b i hlt hb,HC.out (by omega)]
     have hbb:(((s[i]'hlt).toNat:Int)==b)=true:=by simpa using hb
     clear hb;go_wp2_with (at_builtin;refine wpList_append_own _ rfl _ _ 24 rfl w.heap.size 9 i0 (.string ByteArray.empty) 1 16 Tryz.underlying24 hi hz0 hz1 hz2 rfl (by decide) _ _ _ rfl (hown.alloc _) ⟨wr.heap.size,0,none⟩ 1 1 [.string (s.extract f i)] rfl rfl ?c1 ?c2 ?c3 ?c4 ?c5 ?_)
     case c1=>exact Kit.one_cells _ _ _
     case c2=>exact Kit.one_str _
     case c3=>unfold maxLen;omega
     case c4=>omega
     case c5=>have:=hbw.size;simp;omega
     intro v' w1 hown' hgr _;have hb1:=Kit.app_below (zL _) hbw hown hgr;clear hgr hown;go_wp2_with fail
     go_roundw
     case rel=>exact ⟨i+1,_,i+1,by omega,fun _=>HN.out,fun h=>by omega,by omega,by simp;omega,by go_num,by go_num,by simpa using hown',hb1⟩
     case measure=>simp[intOf];omega
    ·have HN:Hid (Cuts.cuts s b (i+1)=(xs,f)):=by
      show _=_
      rw[Cuts.cuts_miss s b i hlt hb,HC.out (by omega)]
     have hbb:(((s[i]'hlt).toNat:Int)==b)=false:=by simpa using hb
     clear hb;go_wp2_with fail
     go_roundw
     case rel=>exact ⟨i+1,_,f,by omega,fun _=>HN.out,fun h=>by omega,by omega,by omega,by go_num,rfl,hown,hbw⟩
     case measure=>simp[intOf];omega
end SpecSplit
namespace SpecName
open Go.RowKit
open Strs SpecTok
theorem name20_spell (s:ByteArray):Tok.name20 s.data.toList=(decide (1<=s.size)&&decide (s.size<=20)&&(if h:0<s.size then Tok.letter (s[0]'h) else false)&&decide (Tok.run s.data.toList 0=s.size)):=by
 unfold Tok.name20;rw[zaa]
 congr 2
 by_cases h:0<s.size
 ·have h':0<s.data.toList.length:=by rw[zaa];exact h
  have hx:s.data.toList[0]'h'=s[0]'h:=rfl;rw[dif_pos h,<-hx];generalize s.data.toList=l at *
  match l,h' with
  | c::r,_=>rfl
 ·have h':s.data.toList=[]:=_root_.List.eq_nil_of_length_eq_zero (by rw[zaa];omega)
  rw[dif_neg h,h']
theorem name20_any (s:ByteArray) (w:World) (hs:s.size<=1048576):
  Calls Tryz.prog 125 #[.string s] w fun e w'=>e=.returned (.bool (Tok.name20 s.data.toList))/\w=w':=by
 have HV:=zH (name20_spell s);by_cases h0:(1:Int)<=(s.size:Int)
 ·by_cases h1:(s.size:Int)<=20
  ·have hp:0<s.size:=by omega
   by_cases h2:Tok.letter (s[0]'hp)=true
   ·have K:=fun w=>zH (za0 (s[0]'hp) true w h2)
    have HV2:Hid (Tok.name20 s.data.toList=decide (Tok.run s.data.toList 0=s.size)):=by show _=_;rw[HV.out,dif_pos hp,h2,decide_eq_true (show 1<=s.size by omega),decide_eq_true (show s.size<=20 by omega)];rfl
    have KR:=fun w=>zH (run_any s 0 0 w rfl (by omega) (by unfold maxLen;omega))
    clear h2 HV;generalize Tok.run s.data.toList 0=r at *;by_cases h3:r=s.size
    ·have t3:((r:Int)==(s.size:Int))=true:=by rw[beq_iff_eq];omega
     have H3:=zH h3;clear h3;go_enter Tryz.func125,Tryz.ntmps125;go_wp2_with fail
     refine (K w).out.mono ?_;rintro e w1 ⟨rfl,rfl⟩;go_wp2_with fail
     refine (KR w).out.mono ?_;rintro e w1 ⟨rfl,rfl⟩;go_wp2_with fail
     go_ret;exact ⟨by rw[HV2.out,decide_eq_true H3.out];rfl,rfl⟩
    ·have t3:((r:Int)==(s.size:Int))=false:=by rw[beq_eq_false_iff_ne];omega
     have H3:=zH h3;clear h3;go_enter Tryz.func125,Tryz.ntmps125;go_wp2_with fail
     refine (K w).out.mono ?_;rintro e w1 ⟨rfl,rfl⟩;go_wp2_with fail
     refine (KR w).out.mono ?_;rintro e w1 ⟨rfl,rfl⟩;go_wp2_with fail
     go_ret;exact ⟨by rw[HV2.out,decide_eq_false H3.out];rfl,rfl⟩
   ·rw[Bool.not_eq_true] at h2
    have K:=fun w=>zH (za0 (s[0]'hp) false w h2)
    have HV2:Hid (Tok.name20 s.data.toList=false):=by show _=_;rw[HV.out,dif_pos hp,h2];simp
    clear h2 HV;go_enter Tryz.func125,Tryz.ntmps125;go_wp2_with fail
    refine (K w).out.mono ?_;rintro e w1 ⟨rfl,rfl⟩;go_wp2_with fail
    go_ret;exact ⟨by rw[HV2.out];rfl,rfl⟩
  ·have HV2:Hid (Tok.name20 s.data.toList=false):=by
    show _=_;rw[HV.out,decide_eq_false (show ¬s.size<=20 by omega)];simp
   go_enter Tryz.func125,Tryz.ntmps125;go_wp2_with fail
   go_ret;exact ⟨by rw[HV2.out];rfl,rfl⟩
 ·have HV2:Hid (Tok.name20 s.data.toList=false):=by
   show _=_;rw[HV.out,decide_eq_false (show ¬1<=s.size by omega)];simp
  go_enter Tryz.func125,Tryz.ntmps125;go_wp2_with fail
  go_ret;exact ⟨by rw[HV2.out];rfl,rfl⟩
theorem name20_is (s:ByteArray) (b:Bool) (w:World) (hs:s.size<=1048576) (h:Tok.name20 s.data.toList=b):
  Calls Tryz.prog 125 #[.string s] w fun e w'=>e=.returned (.bool b)/\w=w':=by subst h;exact name20_any s w hs
theorem has_is (v:Value) (xs:_root_.List ByteArray) (s:ByteArray) (b:Bool) (w:World) (h:At w v xs) (hb:Tok.has xs s=b):
  Calls Tryz.prog 66 #[v,.string s] w fun e w'=>e=.returned (.bool b)/\w=w':=by subst hb;exact has_any v xs s w h
theorem isname_any (s:ByteArray) (w:World) (hs:s.size<=1048576):
  Calls Tryz.prog 57 #[.string s] w fun e w'=>e=.returned (.bool (Tok.isName s))/\Below w.heap.size w w':=by
 by_cases h:Tok.name20 s.data.toList=true
 ·have K:=fun w=>zH (name20_is s true w hs h)
  have HV:Hid (Tok.isName s=!Tok.has Tok.words s):=by show _=_;unfold Tok.isName;rw[h];rfl
  have KH:=fun v w h=>zH (has_any v Tok.words s w h)
  clear h;generalize Tok.has Tok.words s=b at *;go_enter Tryz.func57,Tryz.ntmps57;go_wp2_with fail
  refine (K w).out.mono ?_;rintro e w1 ⟨rfl,rfl⟩;go_wp2_with fail
  refine (words_any w).mono ?_;rintro e w1 ⟨a,c,rfl,hat,hb1⟩;have HAT:=zH hat;clear hat;go_wp2_with fail
  refine (KH _ w1 HAT.out).out.mono ?_;rintro e w2 ⟨rfl,rfl⟩;go_wp2_with fail
  go_ret;exact ⟨by rw[HV.out];rfl,hb1⟩
 ·rw[Bool.not_eq_true] at h
  have K:=fun w=>zH (name20_is s false w hs h)
  have HV:Hid (Tok.isName s=false):=by show _=_;unfold Tok.isName;rw[h];rfl
  clear h;go_enter Tryz.func57,Tryz.ntmps57;go_wp2_with fail
  refine (K w).out.mono ?_;rintro e w1 ⟨rfl,rfl⟩;go_wp2_with fail
  go_ret;exact ⟨by rw[HV.out];rfl,zB _ _⟩
end SpecName
namespace SpecSel
open Go.RowKit
open Strs SpecTok SpecName
theorem row_some {w:World} {base:Nat} {v:Value} {xs:_root_.List ByteArray} (h:w.ownsRow base 9 1 v xs.length (xs.map Value.string)) (hp:1<=xs.length):
  ∃ g cap,v=.slice (some ⟨g,0,none⟩) xs.length cap:=by
 obtain ⟨_,⟨_,hn⟩|⟨g,cap,cur,rfl,_⟩⟩:=h
 ·omega
 ·exact ⟨g,cap,rfl⟩
theorem row_cells {w:World} {base g cap:Nat} {xs:_root_.List ByteArray} (h:w.ownsRow base 9 1 (.slice (some ⟨g,0,none⟩) xs.length cap) xs.length (xs.map Value.string)):(∀ j,j<xs.length->w.cell? ⟨g,j,none⟩=some (.string (xs.getD j ByteArray.empty)))/\xs.length<=cap:=by
 constructor
 ·intro j hj
  rw[h.cellAt j (by omega)];simp[_root_.List.getD,hj]
 ·obtain ⟨_,⟨h',_⟩|⟨g',cap',cur,h',_,_,hn,_⟩⟩:=h
  ·simp at h'
  ·simp at h';omega
theorem part_size (s:ByteArray) (b:Int):∀ p∈Cuts.parts s b,p.size<=s.size:=by
 have h:∀ i,∀ p∈(Cuts.cuts s b i).1,p.size<=s.size:=by
  intro i
  induction i with
  | zero=>intro p hp;simp[Cuts.cuts] at hp
  | succ i ih=>
   intro p hp;rw[Cuts.cuts] at hp
   split at hp
   ·split at hp
    ·simp only[_root_.List.mem_append,_root_.List.mem_singleton] at hp
     rcases hp with hp|rfl
     ·exact ih p hp
     ·rw[ByteArray.size_extract];omega
    ·exact ih p hp
   ·exact ih p hp
 intro p hp;unfold Cuts.parts at hp;simp only[_root_.List.mem_append,_root_.List.mem_singleton] at hp;rcases hp with hp|rfl
 ·exact h _ p hp
 ·rw[ByteArray.size_extract];omega
theorem sel_keys (s:ByteArray) (w:World) (hs:s.size<=1048576) (hb:Tok.has Tok.binaries s=false) (hn:1<(Cuts.parts s 58).length):
  Calls Tryz.prog 133 #[.string s] w fun e w'=>e=.returned (.bool (Tok.keys (Cuts.parts s 58)))/\Below w.heap.size w w':=by
 have KB:=fun v w h=>zH (has_is v Tok.binaries s false w h hb)
 have KS:=fun w=>zH (SpecSplit.split_any s 58 w hs)
 have HPS:=zH (part_size s 58);have hpl:=(Cuts.parts_len s 58).2;clear hb;generalize hps:Cuts.parts s 58=ps at *;have HP:=zH hps;clear hps;generalize hl:ps.length=n at *;have HL:=zH hl;clear hl;go_enter Tryz.func133,Tryz.ntmps133;go_wp2_with fail
 refine (zae w).mono ?_;rintro e w1 ⟨a,c,rfl,hat,hb1⟩;have HAT:=zH hat;clear hat;go_wp2_with fail
 refine (KB _ w1 HAT.out).out.mono ?_;rintro e w1' ⟨rfl,rfl⟩;go_wp2_with fail
 refine (KS w1).out.mono ?_;rintro e w2 ⟨v,rfl,ho,hb2⟩;obtain ⟨g,cap,rfl⟩:=row_some ho (by have:=HL.out;omega);obtain ⟨hcl,hcap⟩:=row_cells ho;have HCL:=zH hcl;clear hcl ho;have B2:Hid (Below w.heap.size w w2):=hb1.trans (hb2.mono hb1.size);clear hb1 hb2 HAT;rw[HL.out] at hcap ⊢;have hn1:(1:Int)<(n:Int):=by omega
 have hlast:w2.cell? ⟨g,n-1,none⟩=some (.string (ps.getD (n-1) ByteArray.empty)):=HCL.out (n-1) (by rw[HL.out];omega);by_cases he:(ps.getD (n-1) ByteArray.empty).toList.isEmpty=true
 ·have HE:Hid ((ps.getLast?.getD ByteArray.empty).toList.isEmpty=true):=by show _=_;rw[Tok.getLast_at ps n HL.out (by omega)];exact he
  generalize ps.getD (n-1) ByteArray.empty=y at *;go_wp2_with fail
  go_loop [5] (fun j=>∃ i:Nat,i<=n-1/\j=.int .i64 i/\∀ k (hk:k<ps.length),k<i->Tok.name20 (ps[k]).data.toList=true) (fun j=>n-(intOf j).toNat)
  case atStart=>exact ⟨0,by omega,rfl,fun k _ h=>by omega⟩
  case round=>
   obtain ⟨i,hi,rfl,hall⟩:=hrel;have HA:=zH hall;clear hall;by_cases hlt:i<n-1
   ·have hil:i<ps.length:=by rw[HL.out];omega
    have hcell:w2.cell? ⟨g,i,none⟩=some (.string ps[i]):=by have:=HCL.out i hil;rw[this];simp[_root_.List.getD,hil]
    have hpsz:ps[i].size<=1048576:=by have:=HPS.out _ (_root_.List.getElem_mem hil);omega
    have hlt':(i:Int)<((n-1:Nat):Int):=by omega
    by_cases hk:Tok.name20 (ps[i]).data.toList=true
    ·have K:=fun w=>zH (name20_is ps[i] true w hpsz hk)
     have HA2:Hid (∀ k (hk:k<ps.length),k<i+1->Tok.name20 (ps[k]).data.toList=true):=by
      intro k hk' h1;by_cases h2:k=i
      ·subst h2;exact hk
      ·exact HA.out k hk' (by omega)
     clear hk;generalize ps[i]=p at *;have hn2:((n:Int)==1)=false:=by rw[beq_eq_false_iff_ne];omega
     go_wp2_with fail
     refine (K w2).out.mono ?_;rintro e w3 ⟨rfl,rfl⟩;go_wp2_with fail
     go_round
     case rel=>exact ⟨i+1,by omega,by go_num,HA2.out⟩
     case measure=>simp[intOf];omega
    ·rw[Bool.not_eq_true] at hk
     have K:=fun w=>zH (name20_is ps[i] false w hpsz hk)
     have HF:Hid (Tok.keys ps=false):=Tok.keys_no ps i (by rw[HL.out];exact hlt) hk;clear hk;generalize ps[i]=p at *;go_wp2_with fail
     refine (K w2).out.mono ?_;rintro e w3 ⟨rfl,rfl⟩;go_wp2_with fail
     go_ret;exact ⟨by rw[HF.out];rfl,B2.out⟩
   ·have hlt':¬(i:Int)<((n-1:Nat):Int):=by omega
    have HF:Hid (Tok.keys ps=decide (ps.length<=5)):=Tok.keys_yes ps HE.out fun k hk=>HA.out k (by omega) (by have:=HL.out;omega)
    by_cases h5:((n-1:Nat):Int)<=4
    ·have HD:Hid (decide (ps.length<=5)=true):=by show _=_;rw[HL.out,decide_eq_true_eq];omega
     go_wp2_with fail
     go_ret;exact ⟨by rw[HF.out,HD.out];rfl,B2.out⟩
    ·have HD:Hid (decide (ps.length<=5)=false):=by show _=_;rw[HL.out,decide_eq_false_iff_not];omega
     go_wp2_with fail
     go_ret;exact ⟨by rw[HF.out,HD.out];rfl,B2.out⟩
 ·rw[Bool.not_eq_true] at he
  have HE:Hid (Tok.keys ps=false):=by show _=_;unfold Tok.keys;rw[Tok.getLast_at ps n HL.out (by omega),he];rfl
  generalize ps.getD (n-1) ByteArray.empty=y at *;go_wp2_with fail
  go_ret;exact ⟨by rw[HE.out];rfl,B2.out⟩
theorem sel_binary (s:ByteArray) (w:World) (hb:Tok.has Tok.binaries s=true):
  Calls Tryz.prog 133 #[.string s] w fun e w'=>e=.returned (.bool true)/\Below w.heap.size w w':=by
 have KB:=fun v w h=>zH (has_is v Tok.binaries s true w h hb)
 clear hb;go_enter Tryz.func133,Tryz.ntmps133;go_wp2_with fail
 refine (zae w).mono ?_;rintro e w1 ⟨a,c,rfl,hat,hb1⟩;have HAT:=zH hat;clear hat;go_wp2_with fail
 refine (KB _ w1 HAT.out).out.mono ?_;rintro e w1' ⟨rfl,rfl⟩;go_wp2_with fail
 go_ret;exact ⟨rfl,hb1⟩
theorem sel_one (s:ByteArray) (w:World) (hs:s.size<=1048576) (hb:Tok.has Tok.binaries s=false) (hn:(Cuts.parts s 58).length=1):
  Calls Tryz.prog 133 #[.string s] w fun e w'=>e=.returned (.bool (Tok.isName s))/\Below w.heap.size w w':=by
 have KB:=fun v w h=>zH (has_is v Tok.binaries s false w h hb)
 have hs1:=SpecSplit.split_any s 58;rw[Tok.parts_one s 58 hn] at hs1;have KS:=fun w=>zH (hs1 w hs)
 clear hb hs1 hn;go_enter Tryz.func133,Tryz.ntmps133;go_wp2_with fail
 refine (zae w).mono ?_;rintro e w1 ⟨a,c,rfl,hat,hb1⟩;have HAT:=zH hat;clear hat;go_wp2_with fail
 refine (KB _ w1 HAT.out).out.mono ?_;rintro e w1' ⟨rfl,rfl⟩;go_wp2_with fail
 refine (KS w1).out.mono ?_;rintro e w2 ⟨v,rfl,ho,hb2⟩;obtain ⟨g,cap,rfl⟩:=row_some ho (by simp);obtain ⟨hcl,hcap⟩:=row_cells ho;have hcell:w2.cell? ⟨g,0,none⟩=some (.string s):=hcl 0 (by simp);have B2:Hid (Below w.heap.size w w2):=hb1.trans (hb2.mono hb1.size);clear hb1 hb2 HAT hcl ho;by_cases hk:Tok.name20 s.data.toList=true
 ·have K:=fun w=>zH (name20_is s true w hs hk)
  have HV:Hid (Tok.isName s=!Tok.has Tok.words s):=by show _=_;unfold Tok.isName;rw[hk];rfl
  clear hk;by_cases hw:Tok.has Tok.words s=true
  ·have KW:=fun v w h=>zH (has_is v Tok.words s true w h hw)
   have HV2:Hid (Tok.isName s=false):=by show _=_;rw[HV.out,hw];rfl
   clear hw HV;go_wp2_with fail
   refine wp_loop_rounds 1 ?_;rw[rounds_succ];go_wp2_with fail
   refine (K w2).out.mono ?_;rintro e w3 ⟨rfl,rfl⟩;go_wp2_with fail
   refine (words_any w2).mono ?_;rintro e w3 ⟨a',c',rfl,hat',hb3⟩;have HAT':=zH hat';clear hat';have B3:Hid (Below w.heap.size w w3):=B2.out.trans (hb3.mono B2.out.size);clear hb3;go_wp2_with fail
   refine (KW _ w3 HAT'.out).out.mono ?_;rintro e w4 ⟨rfl,rfl⟩;go_wp2_with fail
   go_ret;exact ⟨by rw[HV2.out];rfl,B3.out⟩
  ·rw[Bool.not_eq_true] at hw
   have KW:=fun v w h=>zH (has_is v Tok.words s false w h hw)
   have HV2:Hid (Tok.isName s=true):=by show _=_;rw[HV.out,hw];rfl
   clear hw HV;go_wp2_with fail
   refine wp_loop_rounds 2 ?_;rw[rounds_succ];go_wp2_with fail
   refine (K w2).out.mono ?_;rintro e w3 ⟨rfl,rfl⟩;go_wp2_with fail
   refine (words_any w2).mono ?_;rintro e w3 ⟨a',c',rfl,hat',hb3⟩;have HAT':=zH hat';clear hat';have B3:Hid (Below w.heap.size w w3):=B2.out.trans (hb3.mono B2.out.size);clear hb3;go_wp2_with fail
   refine (KW _ w3 HAT'.out).out.mono ?_;rintro e w4 ⟨rfl,rfl⟩;go_wp2_with fail
   rw[rounds_succ];go_wp2_with fail
   go_ret;exact ⟨by rw[HV2.out];rfl,B3.out⟩
 ·rw[Bool.not_eq_true] at hk
  have K:=fun w=>zH (name20_is s false w hs hk)
  have HV2:Hid (Tok.isName s=false):=by show _=_;unfold Tok.isName;rw[hk];rfl
  clear hk;go_wp2_with fail
  refine wp_loop_rounds 1 ?_;rw[rounds_succ];go_wp2_with fail
  refine (K w2).out.mono ?_;rintro e w3 ⟨rfl,rfl⟩;go_wp2_with fail
  go_ret;exact ⟨by rw[HV2.out];rfl,B2.out⟩
theorem sel_any (s:ByteArray) (w:World) (hs:s.size<=1048576):
  Calls Tryz.prog 133 #[.string s] w fun e w'=>e=.returned (.bool (Tok.sel s))/\Below w.heap.size w w':=by
 by_cases hb:Tok.has Tok.binaries s=true
 ·have h:Tok.sel s=true:=by unfold Tok.sel;rw[hb];rfl
  rw[h];exact sel_binary s w hb
 ·rw[Bool.not_eq_true] at hb
  have hp:=(Cuts.parts_len s 58).1;by_cases hn:1<(Cuts.parts s 58).length
  ·have h:Tok.sel s=Tok.keys (Cuts.parts s 58):=by unfold Tok.sel;rw[hb,if_pos hn];rfl
   rw[h];exact sel_keys s w hs hb hn
  ·have h:Tok.sel s=Tok.isName s:=by unfold Tok.sel;rw[hb,if_neg hn];rfl
   rw[h];exact sel_one s w hs hb (by omega)
theorem sel_is (s:ByteArray) (b:Bool) (w:World) (hs:s.size<=1048576) (h:Tok.sel s=b):
  Calls Tryz.prog 133 #[.string s] w fun e w'=>e=.returned (.bool b)/\Below w.heap.size w w':=by subst h;exact sel_any s w hs
theorem count_any (s:ByteArray) (w:World) (hs:s.size<=1048576):
  Calls Tryz.prog 134 #[.string s] w fun e w'=>e=.returned (.int .i64 (Tok.countArgs s))/\Below w.heap.size w w':=by
 by_cases hsel:Tok.sel s=true
 ·have K:=fun w=>zH (sel_is s true w hs hsel)
  by_cases hb:Tok.has Tok.binaries s=true
  ·have KB:=fun v w h=>zH (has_is v Tok.binaries s true w h hb)
   have HV:Hid (Tok.countArgs s=1):=by show _=_;unfold Tok.countArgs;rw[hsel,hb];rfl
   clear hsel hb;go_enter Tryz.func134,Tryz.ntmps134;go_wp2_with fail
   refine (K w).out.mono ?_;rintro e w1 ⟨rfl,hb1⟩;go_wp2_with fail
   refine (zae w1).mono ?_;rintro e w2 ⟨a,c,rfl,hat,hb2⟩;have HAT:=zH hat;clear hat;have B2:Hid (Below w.heap.size w w2):=hb1.trans (hb2.mono hb1.size);clear hb1 hb2;go_wp2_with fail
   refine (KB _ w2 HAT.out).out.mono ?_;rintro e w3 ⟨rfl,rfl⟩;go_wp2_with fail
   go_ret;exact ⟨by rw[HV.out];rfl,B2.out⟩
  ·rw[Bool.not_eq_true] at hb
   have KB:=fun v w h=>zH (has_is v Tok.binaries s false w h hb)
   have HV:Hid (Tok.countArgs s=((Cuts.parts s 58).length:Int)-1):=by show _=_;unfold Tok.countArgs;rw[hsel,hb];rfl
   have KS:=fun w=>zH (SpecSplit.split_any s 58 w hs)
   have hpl:=Cuts.parts_len s 58;obtain ⟨hp1,hp2⟩:=hpl;clear hsel hb;generalize Cuts.parts s 58=ps at *;go_enter Tryz.func134,Tryz.ntmps134;go_wp2_with fail
   refine (K w).out.mono ?_;rintro e w1 ⟨rfl,hb1⟩;go_wp2_with fail
   refine (zae w1).mono ?_;rintro e w2 ⟨a,c,rfl,hat,hb2⟩;have HAT:=zH hat;clear hat;have B2:Hid (Below w.heap.size w w2):=hb1.trans (hb2.mono hb1.size);clear hb1 hb2;go_wp2_with fail
   refine (KB _ w2 HAT.out).out.mono ?_;rintro e w3 ⟨rfl,rfl⟩;go_wp2_with fail
   refine (KS w2).out.mono ?_;rintro e w3 ⟨v,rfl,ho,hb3⟩;obtain ⟨g,cap,rfl⟩:=row_some ho hp1;have B3:Hid (Below w.heap.size w w3):=B2.out.trans (hb3.mono B2.out.size);clear ho hb3;go_wp2_with fail
   go_ret;exact ⟨by rw[HV.out];rfl,B3.out⟩
 ·rw[Bool.not_eq_true] at hsel
  have K:=fun w=>zH (sel_is s false w hs hsel)
  have HV:Hid (Tok.countArgs s = -1):=by show _=_;unfold Tok.countArgs;rw[hsel];rfl
  clear hsel;go_enter Tryz.func134,Tryz.ntmps134;go_wp2_with fail
  refine (K w).out.mono ?_;rintro e w1 ⟨rfl,hb1⟩;go_wp2_with fail
  go_ret;exact ⟨by rw[HV.out];rfl,hb1⟩
end SpecSel
end Go.Proofs.YtbigfeblomfflaaGreatDoor
