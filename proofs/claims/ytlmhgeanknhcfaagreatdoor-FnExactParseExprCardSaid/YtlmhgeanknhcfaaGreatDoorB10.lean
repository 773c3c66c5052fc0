/-
  SpecSymbol
-/
import Derived.Test.YtlmhgeanknhcfaaGreatDoorB11
set_option maxHeartbeats 4000000
namespace Go.Proofs.YtlmhgeanknhcfaaGreatDoor
namespace SpecSymbol
open Go.RowKit
open Strs SpecTok SpecName SpecRead2 SpecSel SpecStarts
structure Box (w:World) (B:Nat) (wr:World):Prop where
 below:Below B w wr
 size:B+1<=wr.heap.size
 c0:wr.cell? ⟨B,0,none⟩=some (.int .i64 0)
 c1:wr.cell? ⟨B,1,none⟩=some (.string ⟨#[]⟩)
 c2:wr.cell? ⟨B,2,none⟩=some (.int .i64 0)
 fz:∀ o,wr.frozen? ⟨B,o,none⟩=false
theorem Box.step {w wr w':World} {B:Nat} (h:Box w B wr) (hb:Below wr.heap.size wr w'):Box w B w':=
 ⟨h.below.trans (hb.mono (by have:=h.size;omega)),Nat.le_trans h.size hb.size,cell_keep hb h.c0,cell_keep hb h.c1,cell_keep hb h.c2,fun o=>(hb.frozen (p:=⟨B,o,none⟩) (by have:=h.size;simp;omega)).trans (h.fz o)⟩
theorem zd6 (w:World):Box w w.heap.size (w.alloc (.cells #[.int .i64 0,.string ⟨#[]⟩,.int .i64 0] 94)):=by
 refine ⟨(zB _ _).alloc (zL _) _,by simp,?_,?_,?_,?_⟩
 all_goals first|(intro o;go_simp)|go_simp
theorem za6:∀ x∈Tok.zad,x.size<=1048576:=by intro x hx;simp only[Tok.zad,_root_.List.mem_cons,_root_.List.not_mem_nil,or_false] at hx;rcases hx with rfl|rfl|rfl|rfl|rfl|rfl|rfl|rfl|rfl|rfl|rfl|rfl|rfl|rfl|rfl<;>(show _<=_;simp[ByteArray.size])
theorem zwp (s:ByteArray) (A:Int) (p:Nat) (w:World) (hA:A=p) (hp:p<=s.size) (hs:s.size<=1048576) (h:(Tok.starts s p Tok.zad).toList.isEmpty=false):
  Calls Tryz.prog 118 #[.string s,.int .i64 A] w fun e w'=>e=.returned (tv (Tok.zax s p))/\Below w.heap.size w w':=by
 subst hA;have HN:=zH (Tok.zma s p h);have KS:=fun v w hat=>zH (zb1 s p p v Tok.zad w rfl hp hs (by decide) za6 hat)
 have BX:=zH (zd6 w);have hops:(Tok.starts s p Tok.zad).size<=1048576:=Tok.zbz s p Tok.zad _ za6;generalize Tok.starts s p Tok.zad=op at *;go_enter Tryz.func118,Tryz.ntmps118;go_wp2_with fail
 refine (zav _).mono ?_;rintro e w1 ⟨a,c,rfl,hat,hb1⟩;have HAT:=zH hat;clear hat;have BX1:=zH (BX.out.step hb1);clear BX hb1;go_wp2_with fail
 refine (KS _ w1 HAT.out).out.mono ?_;rintro e w2 ⟨rfl,hb2⟩;have BX2:=BX1.out.step hb2;clear BX1 hb2;obtain ⟨hbw,hsz,c0,c1,c2,hf⟩:=BX2;go_wp2_with fail
 exact bodyPost_ret (v:=.tuple #[.agg #[.int .i64 5,.string op,.int .i64 0],.int .i64 ((p:Int)+(op.size:Int))]) (by simp[results,Tryz.results118,go_sem, *]) rfl ⟨by rw[HN.out];rfl,(by repeat (first|assumption|refine Below.setCell ?_ (by exact zL _) _))⟩
theorem zvl (s:ByteArray) (A:Int) (p:Nat) (w:World) (hA:A=p) (hp:p<=s.size) (hs:s.size<=1048576) (h:(Tok.starts s p Tok.zad).toList.isEmpty=true) (hla:Tok.za9 s.data.toList p=false):
  Calls Tryz.prog 118 #[.string s,.int .i64 A] w fun e w'=>e=.returned (tv (Tok.zax s p))/\Below w.heap.size w w':=by
 subst hA;have KS:=fun v w hat=>zH (zb1 s p p v Tok.zad w rfl hp hs (by decide) za6 hat)
 have BX:=zH (zd6 w);have HN:=zH (Tok.zla s p h hla);generalize Tok.starts s p Tok.zad=op at *;by_cases hlt:p<s.size
 ·have hl:Tok.letter (s[p]'hlt)=false:=by rw[<-zij s p hlt];exact hla
  have KL:=fun w=>zH (zb6 (s[p]'hlt) false w hl)
  clear hla hl;go_enter Tryz.func118,Tryz.ntmps118;go_wp2_with fail
  refine (zav _).mono ?_;rintro e' w1 ⟨a,c,rfl,hat,hb1⟩;have HAT:=zH hat;clear hat;have BX1:=zH (BX.out.step hb1);clear BX hb1;go_wp2_with fail
  refine (KS _ w1 HAT.out).out.mono ?_;rintro e' w2 ⟨rfl,hb2⟩;have BX2:=zH (BX1.out.step hb2);clear BX1 hb2;go_wp2_with fail
  refine (KL _).out.mono ?_;rintro e' w3 ⟨rfl,rfl⟩;obtain ⟨hbw,hsz,c0,c1,c2,hf⟩:=BX2.out;go_wp2_with fail
  exact bodyPost_ret (v:=.tuple #[.agg #[.int .i64 0,.string ⟨#[]⟩,.int .i64 0],.int .i64 0]) (by simp[results,Tryz.results118,go_sem, *]) rfl ⟨by rw[HN.out];rfl,(by repeat (first|assumption|refine Below.setCell ?_ (by exact zL _) _))⟩
 ·clear hla
  go_enter Tryz.func118,Tryz.ntmps118;go_wp2_with fail
  refine (zav _).mono ?_;rintro e' w1 ⟨a,c,rfl,hat,hb1⟩;have HAT:=zH hat;clear hat;have BX1:=zH (BX.out.step hb1);clear BX hb1;go_wp2_with fail
  refine (KS _ w1 HAT.out).out.mono ?_;rintro e' w2 ⟨rfl,hb2⟩;have BX2:=zH (BX1.out.step hb2);clear BX1 hb2;obtain ⟨hbw,hsz,c0,c1,c2,hf⟩:=BX2.out;go_wp2_with fail
  exact bodyPost_ret (v:=.tuple #[.agg #[.int .i64 0,.string ⟨#[]⟩,.int .i64 0],.int .i64 0]) (by simp[results,Tryz.results118,go_sem, *]) rfl ⟨by rw[HN.out];rfl,(by repeat (first|assumption|refine Below.setCell ?_ (by exact zL _) _))⟩
theorem zjs (s:ByteArray) (i:Nat) (b:Bool) (w:World) (hl:i<=s.size) (hs:s.size<=1048576) (h:Tok.zdr s.data.toList i=b):
  Calls Tryz.prog 148 #[.string s,.int .i64 (i:Nat)] w fun e w'=>e=.returned (.bool b)/\w=w':=by subst h;exact zuf s i i w rfl hl hs
theorem zqd (s:ByteArray) (A:Int) (p:Nat) (w:World) (hA:A=p) (hs:s.size<=1048576) (h:(Tok.starts s p Tok.zad).toList.isEmpty=true) (hlt:p<s.size) (hla:Tok.za9 s.data.toList p=true) (hc:Tok.zdr s.data.toList (Tok.run s.data.toList p)=false):
  Calls Tryz.prog 118 #[.string s,.int .i64 A] w fun e w'=>e=.returned (tv (Tok.zax s p))/\Below w.heap.size w w':=by
 have hp:p<=s.size:=by omega
 subst hA;have KS:=fun v w hat=>zH (zb1 s p p v Tok.zad w rfl hp hs (by decide) za6 hat)
 have BX:=zH (zd6 w);have hl:Tok.letter (s[p]'hlt)=true:=by rw[<-zij s p hlt];exact hla
 have KL:=fun w=>zH (zb6 (s[p]'hlt) true w hl)
 have HLA:=zH hla;have HO:=zH h;have hle:=Tok.zlg s.data.toList p (by rw[zaj];exact hp);rw[zaj] at hle;have KR:=fun w=>zH (zmy s p p w rfl hp (by unfold maxLen;omega))
 have HE:Hid (Tok.zfb s.data.toList p=Tok.run s.data.toList p):=by show _=_;unfold Tok.zfb;rw[if_neg (by rw[hc];simp)]
 have KC:=fun w=>zH (zjs s (Tok.run s.data.toList p) false w hle.2 hs hc)
 clear hc hla hl;generalize Tok.run s.data.toList p=e at *;generalize hop:Tok.starts s p Tok.zad=op at *;rw[<-hop] at HO;have HOP:=zH hop;clear hop;obtain ⟨hpe,hel⟩:=hle;go_enter Tryz.func118,Tryz.ntmps118;go_wp2_with fail
 refine (zav _).mono ?_;rintro e' w1 ⟨a,c,rfl,hat,hb1⟩;have HAT:=zH hat;clear hat;have BX1:=zH (BX.out.step hb1);clear BX hb1;go_wp2_with fail
 refine (KS _ w1 HAT.out).out.mono ?_;rintro e' w2 ⟨rfl,hb2⟩;have BX2:=zH (BX1.out.step hb2);clear BX1 hb2;go_wp2_with fail
 refine (KL _).out.mono ?_;rintro e' w3 ⟨rfl,rfl⟩;go_wp2_with fail
 refine (KR _).out.mono ?_;rintro e' w3 ⟨rfl,rfl⟩;go_wp2_with fail
 refine (KC _).out.mono ?_;rintro e' w3 ⟨rfl,rfl⟩;have hsz1:(s.extract p (e)).size<=1048576:=by rw[ByteArray.size_extract];omega
 have HX:=zH (Tok.zhk s p (e) HO.out HLA.out (HE.out));by_cases hsel:Tok.sel (s.extract p (e))=true
 ·have KSEL:=fun w=>zH (zhx (s.extract p (e)) true w hsz1 hsel)
  have HN:Hid (Tok.zax s p=some (⟨5,s.extract p (e),0⟩,e)):=HX.out.trans (if_pos hsel);clear hsel HX;go_wp2_with fail
  refine (KSEL _).out.mono ?_;rintro e' w3 ⟨rfl,hb3⟩;have BX3:=BX2.out.step hb3;clear BX2 hb3;obtain ⟨hbw,hsz,c0,c1,c2,hf⟩:=BX3;go_wp2_with fail
  exact bodyPost_ret (v:=.tuple #[.agg #[.int .i64 5,.string (s.extract p (e)),.int .i64 0],.int .i64 ((e:Nat):Int)]) (by simp[results,Tryz.results118,go_sem, *]) rfl ⟨by rw[HN.out];rfl,(by repeat (first|assumption|refine Below.setCell ?_ (by exact zL _) _))⟩
 ·have hself:Tok.sel (s.extract p (e))=false:=by simpa using hsel
  have KSEL:=fun w=>zH (zhx (s.extract p (e)) false w hsz1 hself)
  have HN:Hid (Tok.zax s p=none):=HX.out.trans (if_neg hsel);clear hsel hself HX;go_wp2_with fail
  refine (KSEL _).out.mono ?_;rintro e' w3 ⟨rfl,hb3⟩;have BX3:=BX2.out.step hb3;clear BX2 hb3;obtain ⟨hbw,hsz,c0,c1,c2,hf⟩:=BX3;go_wp2_with fail
  exact bodyPost_ret (v:=.tuple #[.agg #[.int .i64 0,.string ⟨#[]⟩,.int .i64 0],.int .i64 0]) (by simp[results,Tryz.results118,go_sem, *]) rfl ⟨by rw[HN.out];rfl,(by repeat (first|assumption|refine Below.setCell ?_ (by exact zL _) _))⟩
theorem zrx (s:ByteArray) (A:Int) (p:Nat) (w:World) (hA:A=p) (hs:s.size<=1048576) (h:(Tok.starts s p Tok.zad).toList.isEmpty=true) (hlt:p<s.size) (hla:Tok.za9 s.data.toList p=true) (hc:Tok.zdr s.data.toList (Tok.run s.data.toList p)=true):
  Calls Tryz.prog 118 #[.string s,.int .i64 A] w fun e w'=>e=.returned (tv (Tok.zax s p))/\Below w.heap.size w w':=by
 have hp:p<=s.size:=by omega
 subst hA;have KS:=fun v w hat=>zH (zb1 s p p v Tok.zad w rfl hp hs (by decide) za6 hat)
 have BX:=zH (zd6 w);have hl:Tok.letter (s[p]'hlt)=true:=by rw[<-zij s p hlt];exact hla
 have KL:=fun w=>zH (zb6 (s[p]'hlt) true w hl)
 have HLA:=zH hla;have HO:=zH h;have hle:=Tok.zlg s.data.toList p (by rw[zaj];exact hp);rw[zaj] at hle;have KR:=fun w=>zH (zmy s p p w rfl hp (by unfold maxLen;omega))
 have HE:Hid (Tok.zfb s.data.toList p=Tok.zeo s.data.toList (s.data.toList.length+1) (Tok.run s.data.toList p+1)):=by show _=_;unfold Tok.zfb;rw[if_pos hc]
 have KC:=fun w=>zH (zjs s (Tok.run s.data.toList p) true w hle.2 hs hc)
 have hcl:Tok.run s.data.toList p+1<=s.size:=by have:=Tok.ze7 _ _ hc;rw[zaj] at this;omega
 clear hc hla hl;have HLEN:Hid (s.data.toList.length=s.size):=zaj s;generalize Tok.run s.data.toList p=r at *;generalize hop:Tok.starts s p Tok.zad=op at *;rw[<-hop] at HO;have HOP:=zH hop;clear hop;obtain ⟨hpr,hrl⟩:=hle;have KR1:=fun w=>zH (zmy s ((r:Int)+1) (r+1) w (by omega) hcl (by unfold maxLen;omega))
 go_enter Tryz.func118,Tryz.ntmps118;go_wp2_with fail
 refine (zav _).mono ?_;rintro e' w1 ⟨a,c,rfl,hat,hb1⟩;have HAT:=zH hat;clear hat;have BX1:=zH (BX.out.step hb1);clear BX hb1;go_wp2_with fail
 refine (KS _ w1 HAT.out).out.mono ?_;rintro e' w2 ⟨rfl,hb2⟩;have BX2:=zH (BX1.out.step hb2);clear BX1 hb2;go_wp2_with fail
 refine (KL _).out.mono ?_;rintro e' w3 ⟨rfl,rfl⟩;go_wp2_with fail
 refine (KR _).out.mono ?_;rintro e' w3 ⟨rfl,rfl⟩;go_wp2_with fail
 refine (KC _).out.mono ?_;rintro e' w3 ⟨rfl,rfl⟩;go_wp2_with fail
 refine (KR1 _).out.mono ?_;rintro e' w3 ⟨rfl,rfl⟩;generalize hr1:Tok.run s.data.toList (r+1)=r1 at *;have HR1:=zH hr1;clear hr1;go_wp2_with fail
 go_loop [7,8] (fun j q=>∃ f e n:Nat,p<=e/\e<=s.size/\s.size<f+e/\n=Tok.run s.data.toList e/\j=.int .i64 e/\q=.int .i64 n/\Tok.zfb s.data.toList p=Tok.zeo s.data.toList f e) (fun j _=>s.size-(intOf j).toNat)
 case atStart=>exact ⟨s.data.toList.length+1,r+1,r1,by omega,hcl,by have:=HLEN.out;omega,HR1.out.symm,by go_num,rfl,HE.out⟩
 case round=>
  obtain ⟨f,e,n,hpe,hel,hfe,hn,rfl,rfl,hgo⟩:=hrel;have hne:=Tok.zlg s.data.toList e (by rw[zaj];exact hel);rw[zaj,<-hn] at hne;have HNR:=zH hn;clear hn;have HGO:=zH hgo;clear hgo;obtain ⟨hen,hns⟩:=hne;by_cases hgt:e<n
  ·have hgti:(e:Int)<(n:Int):=by omega
   by_cases hcn:Tok.zdr s.data.toList n=true
   ·have KC2:=fun w=>zH (zjs s n true w hns hs hcn)
    have hn1:n+1<=s.size:=by have:=Tok.ze7 _ _ hcn;rw[zaj] at this;omega
    have KR2:=fun w=>zH (zmy s ((n:Int)+1) (n+1) w (by omega) hn1 (by unfold maxLen;omega))
    obtain ⟨f,rfl⟩:∃ g,f=g+1:=⟨f-1,by omega⟩
    have HG2:Hid (Tok.zfb s.data.toList p=Tok.zeo s.data.toList f (n+1)):=by have h1:=Tok.zsb s.data.toList f e (by rw[<-HNR.out];exact ⟨hgt,hcn⟩);rw[<-HNR.out] at h1;exact HGO.out.trans h1
    clear hcn;go_wp2_with fail
    refine (KC2 _).out.mono ?_;rintro e' w3 ⟨rfl,rfl⟩;go_wp2_with fail
    refine (KR2 _).out.mono ?_;rintro e' w3 ⟨rfl,rfl⟩;generalize hr2:Tok.run s.data.toList (n+1)=r2 at *;have HR2:=zH hr2;clear hr2;go_wp2_with fail
    go_round
    case rel=>exact ⟨f,n+1,r2,by omega,hn1,by omega,HR2.out.symm,by go_num,rfl,HG2.out⟩
    case measure=>simp[intOf];omega
   ·rw[Bool.not_eq_true] at hcn
    have KC2:=fun w=>zH (zjs s n false w hns hs hcn)
    have HE2:Hid (Tok.zfb s.data.toList p=e):=HGO.out.trans (Tok.zgw _ f e (by rw[<-HNR.out,hcn];simp));clear hcn;go_wp2_with fail
    refine (KC2 _).out.mono ?_;rintro e' w3 ⟨rfl,rfl⟩;have hsz1:(s.extract p (e)).size<=1048576:=by rw[ByteArray.size_extract];omega
    have HX:=zH (Tok.zhk s p (e) HO.out HLA.out (HE2.out));by_cases hsel:Tok.sel (s.extract p (e))=true
    ·have KSEL:=fun w=>zH (zhx (s.extract p (e)) true w hsz1 hsel)
     have HN:Hid (Tok.zax s p=some (⟨5,s.extract p (e),0⟩,e)):=HX.out.trans (if_pos hsel);clear hsel HX;go_wp2_with fail
     refine (KSEL _).out.mono ?_;rintro e' w3 ⟨rfl,hb3⟩;have BX3:=BX2.out.step hb3;clear BX2 hb3;obtain ⟨hbw,hsz,c0,c1,c2,hf⟩:=BX3;go_wp2_with fail
     exact bodyPost_ret (v:=.tuple #[.agg #[.int .i64 5,.string (s.extract p (e)),.int .i64 0],.int .i64 ((e:Nat):Int)]) (by simp[results,Tryz.results118,go_sem, *]) rfl ⟨by rw[HN.out];rfl,(by repeat (first|assumption|refine Below.setCell ?_ (by exact zL _) _))⟩
    ·have hself:Tok.sel (s.extract p (e))=false:=by simpa using hsel
     have KSEL:=fun w=>zH (zhx (s.extract p (e)) false w hsz1 hself)
     have HN:Hid (Tok.zax s p=none):=HX.out.trans (if_neg hsel);clear hsel hself HX;go_wp2_with fail
     refine (KSEL _).out.mono ?_;rintro e' w3 ⟨rfl,hb3⟩;have BX3:=BX2.out.step hb3;clear BX2 hb3;obtain ⟨hbw,hsz,c0,c1,c2,hf⟩:=BX3;go_wp2_with fail
     exact bodyPost_ret (v:=.tuple #[.agg #[.int .i64 0,.string ⟨#[]⟩,.int .i64 0],.int .i64 0]) (by simp[results,Tryz.results118,go_sem, *]) rfl ⟨by rw[HN.out];rfl,(by repeat (first|assumption|refine Below.setCell ?_ (by exact zL _) _))⟩
  ·have hgti:¬(e:Int)<(n:Int):=by omega
   have HE2:Hid (Tok.zfb s.data.toList p=e):=HGO.out.trans (Tok.zgw _ f e (by rw[<-HNR.out];omega));have hsz1:(s.extract p (e)).size<=1048576:=by rw[ByteArray.size_extract];omega
   have HX:=zH (Tok.zhk s p (e) HO.out HLA.out (HE2.out));by_cases hsel:Tok.sel (s.extract p (e))=true
   ·have KSEL:=fun w=>zH (zhx (s.extract p (e)) true w hsz1 hsel)
    have HN:Hid (Tok.zax s p=some (⟨5,s.extract p (e),0⟩,e)):=HX.out.trans (if_pos hsel);clear hsel HX;go_wp2_with fail
    refine (KSEL _).out.mono ?_;rintro e' w3 ⟨rfl,hb3⟩;have BX3:=BX2.out.step hb3;clear BX2 hb3;obtain ⟨hbw,hsz,c0,c1,c2,hf⟩:=BX3;go_wp2_with fail
    exact bodyPost_ret (v:=.tuple #[.agg #[.int .i64 5,.string (s.extract p (e)),.int .i64 0],.int .i64 ((e:Nat):Int)]) (by simp[results,Tryz.results118,go_sem, *]) rfl ⟨by rw[HN.out];rfl,(by repeat (first|assumption|refine Below.setCell ?_ (by exact zL _) _))⟩
   ·have hself:Tok.sel (s.extract p (e))=false:=by simpa using hsel
    have KSEL:=fun w=>zH (zhx (s.extract p (e)) false w hsz1 hself)
    have HN:Hid (Tok.zax s p=none):=HX.out.trans (if_neg hsel);clear hsel hself HX;go_wp2_with fail
    refine (KSEL _).out.mono ?_;rintro e' w3 ⟨rfl,hb3⟩;have BX3:=BX2.out.step hb3;clear BX2 hb3;obtain ⟨hbw,hsz,c0,c1,c2,hf⟩:=BX3;go_wp2_with fail
    exact bodyPost_ret (v:=.tuple #[.agg #[.int .i64 0,.string ⟨#[]⟩,.int .i64 0],.int .i64 0]) (by simp[results,Tryz.results118,go_sem, *]) rfl ⟨by rw[HN.out];rfl,(by repeat (first|assumption|refine Below.setCell ?_ (by exact zL _) _))⟩
theorem zjh (s:ByteArray) (A:Int) (p:Nat) (w:World) (hA:A=p) (hp:p<=s.size) (hs:s.size<=1048576):
  Calls Tryz.prog 118 #[.string s,.int .i64 A] w fun e w'=>e=.returned (tv (Tok.zax s p))/\Below w.heap.size w w':=by
 by_cases h:(Tok.starts s p Tok.zad).toList.isEmpty=true
 ·by_cases hla:Tok.za9 s.data.toList p=true
  ·have hlt:p<s.size:=by
    rcases Nat.lt_or_ge p s.size with h1|h1
    ·exact h1
    ·rw[znu s p (by omega)] at hla;cases hla
   by_cases hc:Tok.zdr s.data.toList (Tok.run s.data.toList p)=true
   ·exact zrx s A p w hA hs h hlt hla hc
   ·exact zqd s A p w hA hs h hlt hla (by simpa using hc)
  ·exact zvl s A p w hA hp hs h (by simpa using hla)
 ·exact zwp s A p w hA hp hs (by simpa using h)
end SpecSymbol
end Go.Proofs.YtlmhgeanknhcfaaGreatDoor
