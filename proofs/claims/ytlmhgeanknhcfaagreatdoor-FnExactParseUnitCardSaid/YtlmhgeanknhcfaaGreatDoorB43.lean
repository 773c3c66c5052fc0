/-
  EqClassDef EqUnit MkClassDef MkUnit HdClassDef HdUnit LwFnExactParseUnit UnitMarks2 FnExactParseUnitWalk
-/
import Derived.Test.YtlmhgeanknhcfaaGreatDoorB42
import Derived.Test.YtlmhgeanknhcfaaGreatDoorB1
set_option maxHeartbeats 16000000
set_option maxRecDepth 10000
namespace Go.Proofs.YtlmhgeanknhcfaaGreatDoor
namespace Data
open Go.RowKit
open Strs Tree zbv
theorem zx2 (lo1 lo2:Nat) (w:World) (ds es:List D) (he:zaa ds=zaa es) (hf:zdc (env 4) (zaa ds)) (hh:zat lo1 w ds) (hk:zat lo2 w es):
  Calls Tryz.prog 99 #[agg ds,agg es] w fun r w'=>r=.returned (.bool true)/\Below w.heap.size w w':=by
 have hg:zdc (env 4) (zaa es):=he▸hf;obtain ⟨s0,e0,rfl,hf_0⟩:=za4 hf;clear hf;obtain ⟨s1,e1,rfl,hf_1⟩:=za4 hf_0;clear hf_0;obtain ⟨t2,v2,d2,e2,rfl,f2,hf_2⟩:=zak (k:=1) rfl hf_1;clear hf_1;obtain ⟨t3,v3,d3,e3,rfl,f3,hf_3⟩:=zak (k:=5) rfl hf_2;clear hf_2;obtain rfl:=zbh hf_3;clear hf_3;obtain ⟨ys0,ye0,rfl,hg_0⟩:=za4 hg;clear hg;obtain ⟨ys1,ye1,rfl,hg_1⟩:=za4 hg_0
 clear hg_0;obtain ⟨yt2,yv2,yd2,ye2,rfl,yf2,hg_2⟩:=zak (k:=1) rfl hg_1;clear hg_1;obtain ⟨yt3,yv3,yd3,ye3,rfl,yf3,hg_3⟩:=zak (k:=5) rfl hg_2;clear hg_2;obtain rfl:=zbh hg_3;clear hg_3;simp only[zaa,erase,List.cons.injEq,P.str.injEq,P.row.injEq,true_and,  and_true] at he;obtain ⟨g0,g1,g2,g3⟩:=he;subst g0;subst g1;simp only[zat,and_true] at hh;obtain ⟨h0,h1,h2,h3⟩:=hh;simp only[zat,and_true] at hk
 obtain ⟨k0,k1,k2,k3⟩:=hk;have K2:=fun (w':World) (hb:Below w.heap.size w w')=>zH (zjw lo1 lo2 t2 yt2 w' v2 yv2 d2 yd2 g2 f2 (h2.below hb) (k2.below hb))
 have K3:=fun (w':World) (hb:Below w.heap.size w w')=>zH (zzy lo1 lo2 t3 yt3 w' v3 yv3 d3 yd3 g3 f3 (h3.below hb) (k3.below hb))
 clear h0 k0;clear h1 k1;clear h2 k2 f2 yf2 g2;clear h3 k3 f3 yf3 g3;have B0:Hid (Below w.heap.size w ((w.alloc (Obj.cells #[Value.string s0,Value.string s1,v2,v3] 75)).alloc (Obj.cells #[Value.string s0,Value.string s1,yv2,yv3] 75))):=zH (((zB _ _).alloc (zL _) _).alloc (by simp) _);have X0:Hid (Cells w.heap.size [D.str s0,D.str s1,D.row t2 1 v2 d2,D.row t3 5 v3 d3] ((w.alloc (Obj.cells #[Value.string s0,Value.string s1,v2,v3] 75)).alloc (Obj.cells #[Value.string s0,Value.string s1,yv2,yv3] 75))):=zH ((zae w [D.str s0,D.str s1,D.row t2 1 v2 d2,D.row t3 5 v3 d3] _).step ((zB _ _).alloc (zL _) _))
 have Y0:Hid (Cells (w.heap.size+1) [D.str s0,D.str s1,D.row yt2 1 yv2 yd2,D.row yt3 5 yv3 yd3] ((w.alloc (Obj.cells #[Value.string s0,Value.string s1,v2,v3] 75)).alloc (Obj.cells #[Value.string s0,Value.string s1,yv2,yv3] 75))):=zH (by have h:=zae (w.alloc (Obj.cells #[Value.string s0,Value.string s1,v2,v3] 75)) [D.str s0,D.str s1,D.row yt2 1 yv2 yd2,D.row yt3 5 yv3 yd3] 75;rw[show (w.alloc (Obj.cells #[Value.string s0,Value.string s1,v2,v3] 75)).heap.size=w.heap.size+1 by simp] at h;exact h)
 rw[show agg [D.str s0,D.str s1,D.row t2 1 v2 d2,D.row t3 5 v3 d3]=Value.agg #[Value.string s0,Value.string s1,v2,v3] from rfl,show agg [D.str s0,D.str s1,D.row yt2 1 yv2 yd2,D.row yt3 5 yv3 yd3]=Value.agg #[Value.string s0,Value.string s1,yv2,yv3] from rfl]
 go_enter Tryz.func99,Tryz.ntmps99;have a2:=X0.out.at 2 (D.row t2 1 v2 d2) rfl;have b2:=Y0.out.at 2 (D.row yt2 1 yv2 yd2) rfl;simp only[val] at a2 b2;go_wp2_with fail
 refine (K2 _ B0.out).out.mono ?_;rintro e w1 ⟨rfl,hb1⟩;have B1:=zH (B0.out.trans (hb1.mono B0.out.size));have X1:=zH (X0.out.step hb1);have Y1:=zH (Y0.out.step hb1);clear hb1 K2 B0 X0 Y0 a2 b2;have a3:=X1.out.at 3 (D.row t3 5 v3 d3) rfl;have b3:=Y1.out.at 3 (D.row yt3 5 yv3 yd3) rfl;simp only[val] at a3 b3;go_wp2_with fail
 refine (K3 _ B1.out).out.mono ?_;rintro e w2 ⟨rfl,hb2⟩;have B2:=zH (B1.out.trans (hb2.mono B1.out.size));have X2:=zH (X1.out.step hb2);have Y2:=zH (Y1.out.step hb2);clear hb2 K3 B1 X1 Y1 a3 b3;go_wp2_with fail
 go_ret;exact ⟨rfl,B2.out⟩
theorem zuu (lo1 lo2 t1 t2:Nat) (w:World) (v1 v2:Value) (ds es:List D) (he:zaa ds=zaa es) (hf:za7 4 (zaa ds)) (hh:Holds lo1 w (.row t1 4 v1 ds)) (hk:Holds lo2 w (.row t2 4 v2 es)):
  Calls Tryz.prog 48 #[v1,v2] w fun r w'=>r=.returned (.bool true)/\Below w.heap.size w w':=by
 rw[Holds] at hh hk;obtain ⟨⟨a1,n,cap1,rfl,-,hn,hnc1,hcm1,hc1⟩,hds⟩:=hh;obtain ⟨⟨a2,n2,cap2,rfl,-,hn2,hnc2,hcm2,hc2⟩,hes⟩:=hk;unfold maxLen at hcm1 hcm2;have hl:=congrArg List.length he;rw[za0,za0] at hl;have hnn:n2=n:=by omega
 subst hnn;have HN:=zH hn;have HN2:=zH hn2;have HF:=zH hf;have HE:=zH he;have HDS:=zH hds;have HES:=zH hes;clear hn hn2 hf he hl hds hes;by_cases hp:0<n2
 rotate_left
 ·have hn0:n2=0:=by omega
  subst hn0;clear hc1 hc2 HN HN2 HF HE HDS HES;go_enter Tryz.func48,Tryz.ntmps48;go_wp2_with fail
  refine wp_loop_rounds 1 ?_;rw[rounds_succ];go_wp2_with fail
  go_ret;exact ⟨rfl,zB _ _⟩
 obtain ⟨bk1,o1,rfl,hp1,hc1⟩:=hc1 hp;obtain ⟨bk2,o2,rfl,hp2,hc2⟩:=hc2 hp;have HC1:=zH hc1;have HC2:=zH hc2;clear hc1 hc2 hp1 hp2;go_enter Tryz.func48,Tryz.ntmps48;go_wp2_with fail
 go_loopw [5] (fun j wr=>∃ (i:Nat) (A R A' R':List D),ds=A++R/\es=A'++R'/\A.length=i*4/\A'.length=i*4/\za7 4 (zaa R)/\zaa R=zaa R'/\j=.int .i64 i/\Below w.heap.size w wr) (fun j _=>n2-(intOf j).toNat)
 case atStart=>exact ⟨0,[],ds,[],es,rfl,rfl,by simp,by simp,HF.out,HE.out,rfl,zB _ _⟩
 case round=>
  obtain ⟨i,A,R,A',R',hds,hes,hal,hal',hfr,her,rfl,hbw⟩:=hrel;have HD:=zH hds;have HD':=zH hes;have HAL:=zH hal;have HAL':=zH hal';clear hds hes hal hal';rcases zct hfr with rfl|⟨item,rest,rfl,hfi,hfrest⟩
  ·have hin:i=n2:=by
    have h1:=HN.out;rw[HD.out,List.append_nil,HAL.out] at h1;omega
   subst hin;clear hfr her;go_wp2_with fail
   go_ret;exact ⟨rfl,hbw⟩
  have hil:item.length=4:=by have:=zfe hfi;rw[za0] at this;exact this
  have hlt:i<n2:=by have h1:=HN.out;rw[HD.out,List.length_append,List.length_append,HAL.out,hil] at h1;omega
  rw[zao] at her;obtain ⟨item',rest',rfl,hei,her'⟩:=zek her.symm;have hfi':zdc (env 4) (zaa item'):=hei.symm▸hfi;have HFI:=zH hfi;have HFR:=zH hfrest;have HER:=zH her'.symm;have he:=hei.symm;have HEI:=zH he;clear hil hfr her hfrest her' hei;obtain ⟨s0,e0,rfl,hfi_0⟩:=za4 hfi;clear hfi;obtain ⟨s1,e1,rfl,hfi_1⟩:=za4 hfi_0;clear hfi_0;obtain ⟨t2,v2,d2,e2,rfl,f2,hfi_2⟩:=zak (k:=1) rfl hfi_1
  clear hfi_1;obtain ⟨t3,v3,d3,e3,rfl,f3,hfi_3⟩:=zak (k:=5) rfl hfi_2;clear hfi_2;obtain rfl:=zbh hfi_3;clear hfi_3;obtain ⟨ys0,ye0,rfl,hfi'_0⟩:=za4 hfi';clear hfi';obtain ⟨ys1,ye1,rfl,hfi'_1⟩:=za4 hfi'_0;clear hfi'_0;obtain ⟨yt2,yv2,yd2,ye2,rfl,yf2,hfi'_2⟩:=zak (k:=1) rfl hfi'_1;clear hfi'_1;obtain ⟨yt3,yv3,yd3,ye3,rfl,yf3,hfi'_3⟩:=zak (k:=5) rfl hfi'_2;clear hfi'_2;obtain rfl:=zbh hfi'_3
  clear hfi'_3;simp only[zaa,erase,List.cons.injEq,P.str.injEq,P.row.injEq,true_and,  and_true] at he;obtain ⟨g0,g1,g2,g3⟩:=he;subst g0;subst g1;have p0:=cell_keep hbw (zh8 HC1.out HD.out HAL.out (D.str s0) rfl);have q0:=cell_keep hbw (zh8 HC2.out HD'.out HAL'.out (D.str s0) rfl);simp only[val] at p0 q0;have p1:=cell_keep hbw (zcc HC1.out HD.out HAL.out 1 (D.str s1) rfl);have q1:=cell_keep hbw (zcc HC2.out HD'.out HAL'.out 1 (D.str s1) rfl)
  simp only[val] at p1 q1;have p2:=cell_keep hbw (zcc HC1.out HD.out HAL.out 2 (D.row t2 1 v2 d2) rfl);have q2:=cell_keep hbw (zcc HC2.out HD'.out HAL'.out 2 (D.row yt2 1 yv2 yd2) rfl);simp only[val] at p2 q2;have p3:=cell_keep hbw (zcc HC1.out HD.out HAL.out 3 (D.row t3 5 v3 d3) rfl);have q3:=cell_keep hbw (zcc HC2.out HD'.out HAL'.out 3 (D.row yt3 5 yv3 yd3) rfl);simp only[val] at p3 q3
  have hit:zat lo1 w [D.str s0,D.str s1,D.row t2 1 v2 d2,D.row t3 5 v3 d3]:=(zat.append.1 ((zat.append.1 (HD.out▸HDS.out)).2)).1;have hit':zat lo2 w [D.str s0,D.str s1,D.row yt2 1 yv2 yd2,D.row yt3 5 yv3 yd3]:=(zat.append.1 ((zat.append.1 (HD'.out▸HES.out)).2)).1;have KI:=fun (w':World) (hb:Below w.heap.size w w')=>zH (zx2 lo1 lo2 w' [D.str s0,D.str s1,D.row t2 1 v2 d2,D.row t3 5 v3 d3] [D.str s0,D.str s1,D.row yt2 1 yv2 yd2,D.row yt3 5 yv3 yd3] HEI.out HFI.out (hit.below hb) (hit'.below hb))
  have HD2:Hid (ds=(A++[D.str s0,D.str s1,D.row t2 1 v2 d2,D.row t3 5 v3 d3])++rest):=zH (by rw[HD.out,List.append_assoc]);have HE2:Hid (es=(A'++[D.str s0,D.str s1,D.row yt2 1 yv2 yd2,D.row yt3 5 yv3 yd3])++rest'):=zH (by rw[HD'.out,List.append_assoc]);have HAL2:Hid ((A++[D.str s0,D.str s1,D.row t2 1 v2 d2,D.row t3 5 v3 d3]).length=(i+1)*4):=zH (by rw[List.length_append,HAL.out,Nat.succ_mul];rfl)
  have HAL3:Hid ((A'++[D.str s0,D.str s1,D.row yt2 1 yv2 yd2,D.row yt3 5 yv3 yd3]).length=(i+1)*4):=zH (by rw[List.length_append,HAL'.out,Nat.succ_mul];rfl);have HB:=zH hbw;clear hit hit' hbw HFI HEI HD HD' HAL HAL' f2 yf2 g2 f3 yf3 g3;simp only[agg,vals,List.map,val] at KI;go_wp2_with fail
  go_region_held3 (fun w'=>w'.cell? ⟨bk1,o1+i*4,none⟩=some (Value.string s0)/\w'.cell? ⟨bk1,o1+i*4+1,none⟩=some (Value.string s1)/\w'.cell? ⟨bk1,o1+i*4+2,none⟩=some v2/\w'.cell? ⟨bk1,o1+i*4+3,none⟩=some v3/\w'.cell? ⟨bk2,o2+i*4,none⟩=some (Value.string s0)/\w'.cell? ⟨bk2,o2+i*4+1,none⟩=some (Value.string s1)/\w'.cell? ⟨bk2,o2+i*4+2,none⟩=some yv2/\w'.cell? ⟨bk2,o2+i*4+3,none⟩=some yv3)
   (first|exact ⟨p0,p1,p2,p3,q0,q1,q2,q3⟩|exact ⟨cell_keep hb1 (show wr.drew.cell? _=_ from p0),cell_keep hb1 (show wr.drew.cell? _=_ from p1),cell_keep hb1 (show wr.drew.cell? _=_ from p2),cell_keep hb1 (show wr.drew.cell? _=_ from p3),cell_keep hb1 (show wr.drew.cell? _=_ from q0),cell_keep hb1 (show wr.drew.cell? _=_ from q1),cell_keep hb1 (show wr.drew.cell? _=_ from q2),cell_keep hb1 (show wr.drew.cell? _=_ from q3)⟩|go_keep)
   (first|(go_at_call 99;refine (KI _ HB.out.drew).out.mono ?_;rintro e w1 ⟨rfl,hb1⟩))
  all_goals go_wp2_with fail
  go_roundw
  case rel=>exact ⟨i+1,A++[D.str s0,D.str s1,D.row t2 1 v2 d2,D.row t3 5 v3 d3],rest,A'++[D.str s0,D.str s1,D.row yt2 1 yv2 yd2,D.row yt3 5 yv3 yd3],rest',HD2.out,HE2.out,HAL2.out,HAL3.out,HFR.out,HER.out,by go_num,HB.out.drew.trans (hb1.mono HB.out.size)⟩
  case measure=>simp[intOf];omega
end Data
namespace Data
open Go.RowKit
open Strs Tree zbv
theorem z2t (lo1 lo2:Nat) (w:World) (ds es:List D) (he:zaa ds=zaa es) (hf:zdc (env 5) (zaa ds)) (hh:zat lo1 w ds) (hk:zat lo2 w es):
  Calls Tryz.prog 16 #[agg ds,agg es] w fun r w'=>r=.returned (.bool true)/\Below w.heap.size w w':=by
 have hg:zdc (env 5) (zaa es):=he▸hf;obtain ⟨t0,v0,d0,e0,rfl,f0,hf_0⟩:=zak (k:=4) rfl hf;clear hf;obtain ⟨s1,e1,rfl,hf_1⟩:=za4 hf_0;clear hf_0;obtain ⟨x2,e2,rfl,hf_2⟩:=zcf hf_1;clear hf_1;obtain ⟨t3,v3,d3,e3,rfl,f3,hf_3⟩:=zak (k:=1) rfl hf_2;clear hf_2;obtain ⟨t4,v4,d4,e4,rfl,f4,hf_4⟩:=zak (k:=1) rfl hf_3;clear hf_3;obtain ⟨t5,v5,d5,e5,rfl,f5,hf_5⟩:=zak (k:=5) rfl hf_4
 clear hf_4;obtain rfl:=zbh hf_5;clear hf_5;obtain ⟨yt0,yv0,yd0,ye0,rfl,yf0,hg_0⟩:=zak (k:=4) rfl hg;clear hg;obtain ⟨ys1,ye1,rfl,hg_1⟩:=za4 hg_0;clear hg_0;obtain ⟨yx2,ye2,rfl,hg_2⟩:=zcf hg_1;clear hg_1;obtain ⟨yt3,yv3,yd3,ye3,rfl,yf3,hg_3⟩:=zak (k:=1) rfl hg_2;clear hg_2;obtain ⟨yt4,yv4,yd4,ye4,rfl,yf4,hg_4⟩:=zak (k:=1) rfl hg_3;clear hg_3;obtain ⟨yt5,yv5,yd5,ye5,rfl,yf5,hg_5⟩:=zak (k:=5) rfl hg_4
 clear hg_4;obtain rfl:=zbh hg_5;clear hg_5;simp only[zaa,erase,List.cons.injEq,P.str.injEq,P.bool.injEq,P.row.injEq,true_and,  and_true] at he;obtain ⟨g0,g1,g2,g3,g4,g5⟩:=he;subst g1;subst g2;simp only[zat,and_true] at hh;obtain ⟨h0,h1,h2,h3,h4,h5⟩:=hh;simp only[zat,and_true] at hk;obtain ⟨k0,k1,k2,k3,k4,k5⟩:=hk;have K0:=fun (w':World) (hb:Below w.heap.size w w')=>zH (zuu lo1 lo2 t0 yt0 w' v0 yv0 d0 yd0 g0 f0 (h0.below hb) (k0.below hb))
 have K1:=fun (w':World) (hb:Below w.heap.size w w')=>zH (zl4 lo1 lo2 w' [D.str s1,D.bool x2,D.row t3 1 v3 d3,D.row t4 1 v4 d4,D.row t5 5 v5 d5] [D.str s1,D.bool x2,D.row yt3 1 yv3 yd3,D.row yt4 1 yv4 yd4,D.row yt5 5 yv5 yd5] (by simp only[zaa,erase,g3,g4,g5]) (zdc.cons _ _ _ _ (Fit.str _) (zdc.cons _ _ _ _ (Fit.bool _) (zdc.cons _ _ _ _ (Fit.row _ _ _ rfl f3) (zdc.cons _ _ _ _ (Fit.row _ _ _ rfl f4) (zdc.cons _ _ _ _ (Fit.row _ _ _ rfl f5) zdc.nil))))) (zat.below ⟨h1,h2,h3,h4,h5,trivial⟩ hb) (zat.below ⟨k1,k2,k3,k4,k5,trivial⟩ hb))
 clear h0 k0 f0 yf0 g0;clear h1 k1;clear h2 k2;clear h3 k3 f3 yf3 g3;clear h4 k4 f4 yf4 g4;clear h5 k5 f5 yf5 g5;have B0:Hid (Below w.heap.size w ((w.alloc (Obj.cells #[v0,Value.string s1,Value.bool x2,v3,v4,v5] 43)).alloc (Obj.cells #[yv0,Value.string s1,Value.bool x2,yv3,yv4,yv5] 43))):=zH (((zB _ _).alloc (zL _) _).alloc (by simp) _);have X0:Hid (Cells w.heap.size [D.row t0 4 v0 d0,D.str s1,D.bool x2,D.row t3 1 v3 d3,D.row t4 1 v4 d4,D.row t5 5 v5 d5] ((w.alloc (Obj.cells #[v0,Value.string s1,Value.bool x2,v3,v4,v5] 43)).alloc (Obj.cells #[yv0,Value.string s1,Value.bool x2,yv3,yv4,yv5] 43))):=zH ((zae w [D.row t0 4 v0 d0,D.str s1,D.bool x2,D.row t3 1 v3 d3,D.row t4 1 v4 d4,D.row t5 5 v5 d5] _).step ((zB _ _).alloc (zL _) _))
 have Y0:Hid (Cells (w.heap.size+1) [D.row yt0 4 yv0 yd0,D.str s1,D.bool x2,D.row yt3 1 yv3 yd3,D.row yt4 1 yv4 yd4,D.row yt5 5 yv5 yd5] ((w.alloc (Obj.cells #[v0,Value.string s1,Value.bool x2,v3,v4,v5] 43)).alloc (Obj.cells #[yv0,Value.string s1,Value.bool x2,yv3,yv4,yv5] 43))):=zH (by have h:=zae (w.alloc (Obj.cells #[v0,Value.string s1,Value.bool x2,v3,v4,v5] 43)) [D.row yt0 4 yv0 yd0,D.str s1,D.bool x2,D.row yt3 1 yv3 yd3,D.row yt4 1 yv4 yd4,D.row yt5 5 yv5 yd5] 43;rw[show (w.alloc (Obj.cells #[v0,Value.string s1,Value.bool x2,v3,v4,v5] 43)).heap.size=w.heap.size+1 by simp] at h;exact h)
 rw[show agg [D.row t0 4 v0 d0,D.str s1,D.bool x2,D.row t3 1 v3 d3,D.row t4 1 v4 d4,D.row t5 5 v5 d5]=Value.agg #[v0,Value.string s1,Value.bool x2,v3,v4,v5] from rfl,show agg [D.row yt0 4 yv0 yd0,D.str s1,D.bool x2,D.row yt3 1 yv3 yd3,D.row yt4 1 yv4 yd4,D.row yt5 5 yv5 yd5]=Value.agg #[yv0,Value.string s1,Value.bool x2,yv3,yv4,yv5] from rfl]
 go_enter Tryz.func16,Tryz.ntmps16;have a0:=X0.out.at 0 (D.row t0 4 v0 d0) rfl;have b0:=Y0.out.at 0 (D.row yt0 4 yv0 yd0) rfl;simp only[val] at a0 b0;go_wp2_with fail
 refine (K0 _ B0.out).out.mono ?_;rintro e w1 ⟨rfl,hb1⟩;have B1:=zH (B0.out.trans (hb1.mono B0.out.size));have X1:=zH (X0.out.step hb1);have Y1:=zH (Y0.out.step hb1);clear hb1 K0 B0 X0 Y0 a0 b0;have a1:=X1.out.at 1 (D.str s1) rfl;have b1:=Y1.out.at 1 (D.str s1) rfl;simp only[val] at a1 b1;have a2:=X1.out.at 2 (D.bool x2) rfl;have b2:=Y1.out.at 2 (D.bool x2) rfl;simp only[val] at a2 b2
 have a3:=X1.out.at 3 (D.row t3 1 v3 d3) rfl;have b3:=Y1.out.at 3 (D.row yt3 1 yv3 yd3) rfl;simp only[val] at a3 b3;have a4:=X1.out.at 4 (D.row t4 1 v4 d4) rfl;have b4:=Y1.out.at 4 (D.row yt4 1 yv4 yd4) rfl;simp only[val] at a4 b4;have a5:=X1.out.at 5 (D.row t5 5 v5 d5) rfl;have b5:=Y1.out.at 5 (D.row yt5 5 yv5 yd5) rfl;simp only[val] at a5 b5;go_wp2_with fail
 refine (K1 _ B1.out).out.mono ?_;rintro e w2 ⟨rfl,hb2⟩;have B2:=zH (B1.out.trans (hb2.mono B1.out.size));have X2:=zH (X1.out.step hb2);have Y2:=zH (Y1.out.step hb2);clear hb2 K1 B1 X1 Y1 a1 b1 a2 b2 a3 b3 a4 b4 a5 b5;go_wp2_with fail
 go_ret;exact ⟨rfl,B2.out⟩
end Data
namespace Data
open Go.RowKit
open Strs Tree zbv
theorem zp1 (base k t:Nat) (w:World) (v:Value) (ds:List D) (hf:za7 4 (zaa ds)) (hrow:Row base w t 4 v ds) (hk:0<k) (hkn:k+zba (zaa ds)<=4611686018427387904):
  Calls Tryz.prog 60 #[v,.int .i64 (k:Int)] w fun e w'=>e=.returned (.int .i64 ((k+zba (zaa ds):Nat):Int))/\Row base w' t 4 v (zac k ds)/\Exc (blk v++zah ds) w w':=by
 rcases zh2 hrow with ⟨rfl,rfl⟩|⟨g,n,c,rfl⟩
 ·clear hf hkn
  go_enter Tryz.func60,Tryz.ntmps60;go_wp2_with fail
  refine wp_loop_rounds 1 ?_;rw[rounds_succ];go_wp2_with fail
  go_ret;exact ⟨rfl,hrow,Exc.refl _ _⟩
 obtain ⟨hn,hroom⟩:=zgv hrow;unfold maxLen at hroom;have HN:=zH hn;have HF:=zH hf;have HROW:=zH hrow;have HKN:=zH hkn;clear hn hf hrow hkn;go_enter Tryz.func60,Tryz.ntmps60;go_wp2_with fail
 go_loopw [1,5] (fun q j wr=>∃ (i:Nat) (A R:List D),ds=A++R/\A.length=i*4/\za7 4 (zaa R)/\j=.int .i64 i/\q=.int .i64 ((k+zba (zaa A):Nat):Int)/\Row base wr t 4 (.slice (some ⟨g,0,none⟩) n c) (zac k A++R)/\Exc (blk (.slice (some ⟨g,0,none⟩) n c)++zah ds) w wr) (fun _ j _=>n-(intOf j).toNat)
 case atStart=>exact ⟨0,[],ds,rfl,by simp,HF.out,rfl,rfl,HROW.out,Exc.refl _ _⟩
 case round=>
  clear HROW;obtain ⟨i,A,R,hds,hal,hfr,rfl,rfl,hrow,hexc⟩:=hrel;have HD:=zH hds;have HAL:=zH hal;have HROW:=zH hrow;have HEXC:=zH hexc;clear hds hal hrow hexc;generalize hq:k+zba (zaa A)=q at *;have HQ:=zH hq;clear hq;rcases zct hfr with rfl|⟨item,rest,rfl,hfi,hfrest⟩
  ·have hin:i=n:=by
    have h1:=HN.out;rw[HD.out,List.append_nil,HAL.out] at h1;omega
   have hlt:¬((i:Int)<(n:Int)):=by omega
   clear hin hfr;go_wp2_with fail
   go_ret;refine ⟨congrArg (fun z:Nat=>Ending.returned (.int .i64 (z:Int))) (show q=k+zba (zaa ds) by rw[HD.out,List.append_nil,HQ.out]),?_,HEXC.out⟩
   have h1:=HROW.out;rw[List.append_nil] at h1;rw[HD.out,List.append_nil];exact h1
  have hil:item.length=4:=by have:=zfe hfi;rw[za0] at this;exact this
  have hlt:(i:Int)<(n:Int):=by have h1:=HN.out;rw[HD.out,List.length_append,List.length_append,HAL.out,hil] at h1;omega
  have HFR:=zH hfrest;clear hil hfr hfrest;obtain ⟨s0,e0,rfl,hfi_0⟩:=za4 hfi;clear hfi;obtain ⟨s1,e1,rfl,hfi_1⟩:=za4 hfi_0;clear hfi_0;obtain ⟨t2,v2,d2,e2,rfl,f2,hfi_2⟩:=zak (k:=1) rfl hfi_1;clear hfi_1;obtain ⟨t3,v3,d3,e3,rfl,f3,hfi_3⟩:=zak (k:=5) rfl hfi_2;clear hfi_2;obtain rfl:=zbh hfi_3;clear hfi_3
  have hqb:q+zba (zaa [D.str s0,D.str s1,D.row t2 1 v2 d2,D.row t3 5 v3 d3])<=4611686018427387904:=by have h1:=HKN.out;rw[HD.out,zao,zao,zaz,zaz] at h1;have:=HQ.out;omega
  simp only[zaa,erase,zba,cnt] at hqb;have hqp:0<q:=by have:=HQ.out;omega
  have HFS2:Hid (∀ b,b∈blk v2++zah d2->b∈blk (.slice (some ⟨g,0,none⟩) n c)++zah ds):=zH (fun b hb=>by rw[HD.out,zan,zan];simp only[zah,foot,List.append_nil,List.mem_append] at hb ⊢;rcases hb with hb|hb<;>simp[hb])
  have HFS3:Hid (∀ b,b∈blk v3++zah d3->b∈blk (.slice (some ⟨g,0,none⟩) n c)++zah ds):=zH (fun b hb=>by rw[HD.out,zan,zan];simp only[zah,foot,List.append_nil,List.mem_append] at hb ⊢;rcases hb with hb|hb<;>simp[hb])
  have hgf:g∈blk (.slice (some ⟨g,0,none⟩) n c)++zah ds:=by simp[blk,Value.ownBlock]
  have HMK:Hid (zac k (A++[D.str s0,D.str s1,D.row t2 1 v2 d2,D.row t3 5 v3 d3])=zac k A++zac q [D.str s0,D.str s1,D.row t2 1 v2 d2,D.row t3 5 v3 d3]):=zH (by rw[zbt,HQ.out]);have hml:(zac k A).length=i*4:=by rw[zbr,HAL.out]
  generalize zac k A=M0 at *;have HL0:=zH hml;clear hml;have HR0:Hid (Row base wr t 4 (.slice (some ⟨g,0,none⟩) n c) (M0++(D.str s0)::(D.str s1)::(D.row t2 1 v2 d2)::(D.row t3 5 v3 d3)::rest)):=HROW;clear HROW
  obtain ⟨c0,z0⟩:wr.cell? ⟨g,i*4,none⟩=some (Value.string s0)/\wr.frozen? ⟨g,i*4,none⟩=false:=by have h:=HR0.out;exact Row.cell h HL0.out
  obtain ⟨c1,z1⟩:wr.cell? ⟨g,i*4+1,none⟩=some (Value.string s1)/\wr.frozen? ⟨g,i*4+1,none⟩=false:=by have h:=HR0.out;replace h:=zal h;exact Row.cell h (by simp only[List.length_append,List.length_cons,List.length_nil,HL0.out])
  have HB0:Hid (0<q):=zH hqp
  skip
  go_wp2_with fail
  refine (Mark.zcv ((q:Int)) _ (by omega) (by omega)).mono ?_;rintro e w1 ⟨rfl,hb1⟩;have HRs1:=zH (HR0.out.below hb1);have HXs1:=zH (HEXC.out.below hb1);clear hb1 HR0 HEXC c0 z0 c1 z1;have hms0:(Mark.mark ((q:Int))).size<=maxLen:=ze3 _;generalize hmk:Mark.mark ((q:Int))=mk0 at *;have HMK0:=zH hmk;clear hmk
  obtain ⟨c0,z0⟩:w1.cell? ⟨g,i*4,none⟩=some (Value.string s0)/\w1.frozen? ⟨g,i*4,none⟩=false:=by have h:=HRs1.out;exact Row.cell h HL0.out
  obtain ⟨c1,z1⟩:w1.cell? ⟨g,i*4+1,none⟩=some (Value.string s1)/\w1.frozen? ⟨g,i*4+1,none⟩=false:=by have h:=HRs1.out;replace h:=zal h;exact Row.cell h (by simp only[List.length_append,List.length_cons,List.length_nil,HL0.out])
  have hr:=zal (zed (D.str mk0) HRs1.out HL0.out rfl rfl (zn2 _ hms0));have HX1:Hid (Exc (blk (.slice (some ⟨g,0,none⟩) n c)++zah ds) w ((w1).setCell ⟨g,i*4,none⟩ (.string mk0))):=zH (HXs1.out.set _ hgf);obtain ⟨M1,hM⟩:∃ M',M'=M0++[D.str mk0]:=⟨_,rfl⟩;rw[<-hM] at hr;have HL1:Hid (M1.length=i*4+1):=zH (by rw[hM,List.length_append,HL0.out];rfl);have HM1:=zH hM;clear hM
  have HR1:Hid (Row base ((w1).setCell ⟨g,i*4,none⟩ (.string mk0)) t 4 (.slice (some ⟨g,0,none⟩) n c) (M1++(D.str s1)::(D.row t2 1 v2 d2)::(D.row t3 5 v3 d3)::rest)):=zH hr;clear hr HRs1 HXs1
  skip
  go_wp2_with fail
  refine (Mark.zcv ((q:Int)+1) _ (by omega) (by omega)).mono ?_;rintro e w2 ⟨rfl,hb2⟩;have HRs2:=zH (HR1.out.below hb2);have HXs2:=zH (HX1.out.below hb2);clear hb2 HR1 HX1 c0 z0 c1 z1;have hms1:(Mark.mark ((q:Int)+1)).size<=maxLen:=ze3 _;generalize hmk:Mark.mark ((q:Int)+1)=mk1 at *;have HMK1:=zH hmk;clear hmk
  obtain ⟨c1,z1⟩:w2.cell? ⟨g,i*4+1,none⟩=some (Value.string s1)/\w2.frozen? ⟨g,i*4+1,none⟩=false:=by have h:=HRs2.out;exact Row.cell h HL1.out
  obtain ⟨c2,z2⟩:w2.cell? ⟨g,i*4+2,none⟩=some (v2)/\w2.frozen? ⟨g,i*4+2,none⟩=false:=by have h:=HRs2.out;replace h:=zal h;exact Row.cell h (by simp only[List.length_append,List.length_cons,List.length_nil,HL1.out])
  have hr:=zal (zed (D.str mk1) HRs2.out HL1.out rfl rfl (zn2 _ hms1));have HX2:Hid (Exc (blk (.slice (some ⟨g,0,none⟩) n c)++zah ds) w ((w2).setCell ⟨g,i*4+1,none⟩ (.string mk1))):=zH (HXs2.out.set _ hgf);obtain ⟨M2,hM⟩:∃ M',M'=M1++[D.str mk1]:=⟨_,rfl⟩;rw[<-hM] at hr;have HL2:Hid (M2.length=i*4+2):=zH (by rw[hM,List.length_append,HL1.out];rfl);have HM2:=zH hM;clear hM
  have HR2:Hid (Row base ((w2).setCell ⟨g,i*4+1,none⟩ (.string mk1)) t 4 (.slice (some ⟨g,0,none⟩) n c) (M2++(D.row t2 1 v2 d2)::(D.row t3 5 v3 d3)::rest)):=zH hr;clear hr HRs2 HXs2;have KN2:Hid (Calls Tryz.prog 35 #[v2,.int .i64 ((q:Int)+1+1)] ((w2).setCell ⟨g,i*4+1,none⟩ (.string mk1)) fun e w'=>e=.returned (.int .i64 ((q+1+1+zba (zaa d2):Nat):Int))/\Row base w' t2 1 v2 (zac (q+1+1) d2)/\Exc (blk v2++zah d2) ((w2).setCell ⟨g,i*4+1,none⟩ (.string mk1)) w'):=zH (zey base (q+1+1) t2 ((w2).setCell ⟨g,i*4+1,none⟩ (.string mk1)) v2 d2 f2 (zfg HR2.out) (by omega) (by omega))
  go_wp2_with fail
  refine KN2.out.mono ?_;rintro e w3 ⟨rfl,hk3,hx3⟩;have hr:=zal (zer (D.row t2 1 v2 (zac (q+1+1) d2)) HR2.out rfl (by simp only[foot,zbq]) (row_iff.2 hk3) hx3 (fun b hb=>by rw[foot];exact hb))
  have HX3:=zH (HX2.out.trans (hx3.mono HFS2.out));obtain ⟨M3,hM⟩:∃ M',M'=M2++[D.row t2 1 v2 (zac (q+1+1) d2)]:=⟨_,rfl⟩;rw[<-hM] at hr;have HL3:Hid (M3.length=i*4+3):=zH (by rw[hM,List.length_append,HL2.out];rfl);have HM3:=zH hM;clear hM;have HR3:Hid (Row base w3 t 4 (.slice (some ⟨g,0,none⟩) n c) (M3++(D.row t3 5 v3 d3)::rest)):=zH hr;clear hr hk3 hx3 KN2 HFS2 HR2 HX2 f2 c1 z1 c2 z2
  obtain ⟨m2,hm_⟩:∃ m,m=q+1+1+zba (zaa d2):=⟨_,rfl⟩;rw[<-hm_];have hmp2:0<m2:=by omega
  have hmb2:m2+0+zba (zaa d3)<=4611686018427387904:=by omega
  have HQ2:=zH hm_;clear hm_
  obtain ⟨c3,z3⟩:w3.cell? ⟨g,i*4+3,none⟩=some (v3)/\w3.frozen? ⟨g,i*4+3,none⟩=false:=by have h:=HR3.out;exact Row.cell h HL3.out
  have KN3:Hid (Calls Tryz.prog 108 #[v3,.int .i64 ((m2:Int))] (w3) fun e w'=>e=.returned (.int .i64 ((m2+zba (zaa d3):Nat):Int))/\Row base w' t3 5 v3 (zac (m2) d3)/\Exc (blk v3++zah d3) (w3) w'):=zH (zt0 base (m2) t3 (w3) v3 d3 f3 (zfg HR3.out) (by omega) (by omega))
  go_wp2_with fail
  refine KN3.out.mono ?_;rintro e w4 ⟨rfl,hk4,hx4⟩;have hr:=zal (zer (D.row t3 5 v3 (zac (m2) d3)) HR3.out rfl (by simp only[foot,zbq]) (row_iff.2 hk4) hx4 (fun b hb=>by rw[foot];exact hb))
  have HX4:=zH (HX3.out.trans (hx4.mono HFS3.out));obtain ⟨M4,hM⟩:∃ M',M'=M3++[D.row t3 5 v3 (zac (m2) d3)]:=⟨_,rfl⟩;rw[<-hM] at hr;have HL4:Hid (M4.length=i*4+4):=zH (by rw[hM,List.length_append,HL3.out];rfl);have HM4:=zH hM;clear hM;have HR4:Hid (Row base w4 t 4 (.slice (some ⟨g,0,none⟩) n c) (M4++rest)):=zH hr;clear hr hk4 hx4 KN3 HFS3 HR3 HX3 f3 c3 z3;obtain ⟨m3,hm_⟩:∃ m,m=m2+zba (zaa d3):=⟨_,rfl⟩
  rw[<-hm_];have hmp3:0<m3:=by omega
  have hmb3:m3+0<=4611686018427387904:=by omega
  have HQ3:=zH hm_;clear hm_
  have HFIN:Hid (zac k (A++[D.str s0,D.str s1,D.row t2 1 v2 d2,D.row t3 5 v3 d3])=M4):=zH (by
   rw[HMK.out];simp only[zac,marked,erase,cnt];rw[HM4.out];rw[HM3.out];rw[HM2.out];rw[HM1.out];rw[<-HMK0.out];rw[<-HMK1.out]
   try rw[HQ3.out]
   try rw[HQ2.out]
   first|(simp only[List.append_assoc,List.cons_append,List.nil_append];done)|(simp only[List.append_assoc,List.cons_append,List.nil_append];rfl))
  have HE:Hid (m3=k+zba (zaa (A++[D.str s0,D.str s1,D.row t2 1 v2 d2,D.row t3 5 v3 d3]))):=zH (by rw[zao,zaz];simp only[zaa,erase,zba,cnt];have:=HQ.out;have h2':=HQ2.out;have h3':=HQ3.out;omega)
  skip
  go_wp2_with fail
  go_roundw
  case rel=>
   refine ⟨i+1,A++[D.str s0,D.str s1,D.row t2 1 v2 d2,D.row t3 5 v3 d3],rest,by rw[HD.out,List.append_assoc],by rw[List.length_append,HAL.out,Nat.succ_mul];rfl,HFR.out,by go_num,?_,?_,HX4.out⟩
   ·exact congrArg (fun z:Nat=>Value.int .i64 (z:Int)) HE.out
   ·rw[HFIN.out];exact HR4.out
  case measure=>simp[intOf];omega
end Data
namespace Data
open Go.RowKit
open Strs Tree zbv
theorem z5y (base k:Nat) (w:World) (ds:List D) (hf:zdc (env 5) (zaa ds)) (hown:Own base w ds) (hk:0<k) (hkn:k+zdt (zaa ds)<=4611686018427387904):
  Calls Tryz.prog 24 #[agg ds,.int .i64 (k:Int)] w fun e w'=>e=.returned (.int .i64 ((k+zdt (zaa ds):Nat):Int))/\Own base w' (zd9 k ds)/\Exc (zah ds) w w':=by
 obtain ⟨t0,v0,d0,e0,rfl,f0,hf_0⟩:=zak (k:=4) rfl hf;clear hf;obtain ⟨s1,e1,rfl,hf_1⟩:=za4 hf_0;clear hf_0;obtain ⟨x2,e2,rfl,hf_2⟩:=zcf hf_1;clear hf_1;obtain ⟨t3,v3,d3,e3,rfl,f3,hf_3⟩:=zak (k:=1) rfl hf_2;clear hf_2;obtain ⟨t4,v4,d4,e4,rfl,f4,hf_4⟩:=zak (k:=1) rfl hf_3;clear hf_3;obtain ⟨t5,v5,d5,e5,rfl,f5,hf_5⟩:=zak (k:=5) rfl hf_4;clear hf_4;obtain rfl:=zbh hf_5
 clear hf_5;simp only[zaa,erase,zdt,zox] at hkn;have hb0:Below w.heap.size w (w.alloc (Obj.cells #[v0,Value.string s1,Value.bool x2,v3,v4,v5] 43)):=(zB _ _).alloc (zL _) _;have C0:Hid (Cells w.heap.size [D.row t0 4 v0 d0,D.str s1,D.bool x2,D.row t3 1 v3 d3,D.row t4 1 v4 d4,D.row t5 5 v5 d5] (w.alloc (Obj.cells #[v0,Value.string s1,Value.bool x2,v3,v4,v5] 43))):=zH (zae w [D.row t0 4 v0 d0,D.str s1,D.bool x2,D.row t3 1 v3 d3,D.row t4 1 v4 d4,D.row t5 5 v5 d5] _)
 have HLT:Hid (∀ b,b∈zah [D.row t0 4 v0 d0,D.str s1,D.bool x2,D.row t3 1 v3 d3,D.row t4 1 v4 d4,D.row t5 5 v5 d5]->b≠w.heap.size):=zH (fun b hb=>by have:=hown.lt b hb;omega)
 have HO0:Hid (Own base (w.alloc (Obj.cells #[v0,Value.string s1,Value.bool x2,v3,v4,v5] 43)) ([]++[D.row t0 4 v0 d0,D.str s1,D.bool x2,D.row t3 1 v3 d3,D.row t4 1 v4 d4,D.row t5 5 v5 d5])):=zH (hown.below hb0);have HX0:Hid (Exc (zah [D.row t0 4 v0 d0,D.str s1,D.bool x2,D.row t3 1 v3 d3,D.row t4 1 v4 d4,D.row t5 5 v5 d5]) w (w.alloc (Obj.cells #[v0,Value.string s1,Value.bool x2,v3,v4,v5] 43))):=zH ((Exc.refl _ _).below hb0)
 clear hown hb0;rw[show agg [D.row t0 4 v0 d0,D.str s1,D.bool x2,D.row t3 1 v3 d3,D.row t4 1 v4 d4,D.row t5 5 v5 d5]=Value.agg #[v0,Value.string s1,Value.bool x2,v3,v4,v5] from rfl]
 go_enter Tryz.func24,Tryz.ntmps24;have hqp:0<k:=hk;have a0:=C0.out.at 0 (D.row t0 4 v0 d0) rfl;simp only[val] at a0;have ho:Own base (w.alloc (Obj.cells #[v0,Value.string s1,Value.bool x2,v3,v4,v5] 43)) ([]++(D.row t0 4 v0 d0)::(D.str s1)::(D.bool x2)::(D.row t3 1 v3 d3)::(D.row t4 1 v4 d4)::(D.row t5 5 v5 d5)::[]):=HO0.out;have KN0:=zH (zp1 base (k) t0 (w.alloc (Obj.cells #[v0,Value.string s1,Value.bool x2,v3,v4,v5] 43)) v0 d0 f0 (row_iff.1 (zgo ho)) (by omega) (by omega))
 have HO:=zH ho;clear ho;go_wp2_with fail
 refine KN0.out.mono ?_;rintro e w1 ⟨rfl,hr,hx⟩;have HO1:Hid (Own base w1 ([]++(D.row t0 4 v0 (zac (k) d0))::(D.str s1)::(D.bool x2)::(D.row t3 1 v3 d3)::(D.row t4 1 v4 d4)::(D.row t5 5 v5 d5)::[])):=zH (zjg (D.row t0 4 v0 (zac (k) d0)) HO.out (row_iff.2 hr) (by simp only[foot,zbq]) hx (fun b hb=>by rw[foot];exact hb))
 have hF:∀ b,b∈blk v0++zah d0->b∈zah [D.row t0 4 v0 d0,D.str s1,D.bool x2,D.row t3 1 v3 d3,D.row t4 1 v4 d4,D.row t5 5 v5 d5]:=fun b hb=>by simp only[zah,foot,List.append_nil,List.nil_append,List.mem_append] at hb ⊢;rcases hb with hb|hb<;>simp[hb]
 have HX1:=zH (HX0.out.trans (hx.mono hF));have C1:Hid (Cells w.heap.size [D.row t0 4 v0 d0,D.str s1,D.bool x2,D.row t3 1 v3 d3,D.row t4 1 v4 d4,D.row t5 5 v5 d5] w1):=zH (C0.out.exc hx (fun e=>HLT.out _ (hF _ e) rfl))
 clear hr hx hF KN0 C0 HX0 HO0 a0 HO;obtain ⟨m0,hm_⟩:∃ m,m=k+zba (zaa d0):=⟨_,rfl⟩;rw[<-hm_];have hmp0:0<m0:=by omega
 have HQ0:=zH hm_
 skip
 have hmb0:m0+0+zba (zaa d3)+zba (zaa d4)+zba (zaa d5)<=4611686018427387904:=by omega
 clear hm_;have a1:=C1.out.at 1 (D.str s1) rfl;simp only[val] at a1;have a2:=C1.out.at 2 (D.bool x2) rfl;simp only[val] at a2;have a3:=C1.out.at 3 (D.row t3 1 v3 d3) rfl;simp only[val] at a3;have a4:=C1.out.at 4 (D.row t4 1 v4 d4) rfl;simp only[val] at a4;have a5:=C1.out.at 5 (D.row t5 5 v5 d5) rfl;simp only[val] at a5;have KN1:=zH (zos base (m0) (w1) [D.str s1,D.bool x2,D.row t3 1 v3 d3,D.row t4 1 v4 d4,D.row t5 5 v5 d5] (zdc.cons _ _ _ _ (Fit.str _) (zdc.cons _ _ _ _ (Fit.bool _) (zdc.cons _ _ _ _ (Fit.row _ _ _ rfl f3) (zdc.cons _ _ _ _ (Fit.row _ _ _ rfl f4) (zdc.cons _ _ _ _ (Fit.row _ _ _ rfl f5) zdc.nil))))) (Own.left (b:=[]) (Own.right (a:=[D.row t0 4 v0 (zac (k) d0)]) HO1.out)) (by omega) (by simp only[zaa,erase,zdt,zox];omega))
 simp only[agg,vals,List.map,val] at KN1;go_wp2_with fail
 refine KN1.out.mono ?_;rintro e w2 ⟨rfl,hr,hx⟩;have hF:∀ b,b∈zah [D.str s1,D.bool x2,D.row t3 1 v3 d3,D.row t4 1 v4 d4,D.row t5 5 v5 d5]->b∈zah [D.row t0 4 v0 d0,D.str s1,D.bool x2,D.row t3 1 v3 d3,D.row t4 1 v4 d4,D.row t5 5 v5 d5]:=fun b hb=>by simp only[zah,foot,List.append_nil,List.nil_append,List.mem_append] at hb ⊢;first|(simp only[hb,or_true];done)|simp only[hb,true_or,or_true]
 have HO2:Hid (Own base w2 ([D.row t0 4 v0 (zac (k) d0)]++([D.str s1,D.bool x2,D.row t3 1 v3 (zac (m0) d3),D.row t4 1 v4 (zac (m0+zba (zaa d3)) d4),D.row t5 5 v5 (zac (m0+zba (zaa d3)+zba (zaa d4)) d5)]++[]))):=zH (zrj HO1.out (by have h:=hr;simpa only[zd9,zko,zox,erase,Nat.add_zero,Nat.add_assoc] using h) (by simp only[zah,foot,zbq]) hx (fun b hb=>hb))
 have HX2:=zH (HX1.out.trans (hx.mono hF));have C2:Hid (Cells w.heap.size [D.row t0 4 v0 d0,D.str s1,D.bool x2,D.row t3 1 v3 d3,D.row t4 1 v4 d4,D.row t5 5 v5 d5] w2):=zH (C1.out.exc hx (fun e=>HLT.out _ (hF _ e) rfl))
 clear hr hx hF KN1 C1 HX1 HO1 a1 a2 a3 a4 a5;obtain ⟨m1,hm_⟩:∃ m,m=m0+zdt (zaa [D.str s1,D.bool x2,D.row t3 1 v3 d3,D.row t4 1 v4 d4,D.row t5 5 v5 d5]):=⟨_,rfl⟩;rw[<-hm_];have hmp1:0<m1:=by omega
 simp only[zaa,erase,zdt,zox] at hm_;have HQ1:=zH hm_
 skip
 have hmb1:m1+0<=4611686018427387904:=by omega
 clear hm_;go_wp2_with fail
 go_ret;refine ⟨?_,?_,HX2.out⟩
 ·refine congrArg (fun z:Nat=>Ending.returned (.int .i64 (z:Int))) (show m1=k+zdt (zaa [D.row t0 4 v0 d0,D.str s1,D.bool x2,D.row t3 1 v3 d3,D.row t4 1 v4 d4,D.row t5 5 v5 d5]) from ?_)
  simp only[zaa,erase,zdt,zox];have h0':=HQ0.out;have h1':=HQ1.out;omega
 ·have h:=HO2.out
  try rw[HQ1.out] at h
  try rw[HQ0.out] at h
  simp only[List.nil_append,List.cons_append] at h;simp only[zd9,zko,zox,erase,Nat.add_zero,Nat.add_assoc] at h ⊢;exact h
end Data
namespace Data
open Go.RowKit
open Strs Tree zbv
theorem zqb (base k t:Nat) (w:World) (v:Value) (ds:List D) (hf:za7 4 (zaa ds)) (hrow:Row base w t 4 v (zac k ds)) (hk:0<k) (hkn:k+zba (zaa ds)<=4611686018427387904):
  Calls Tryz.prog 61 #[v,.int .i64 (k:Int)] w fun e w'=>e=.returned (.int .i64 ((k+zba (zaa ds):Nat):Int))/\Below w.heap.size w w':=by
 rcases zh2 hrow with ⟨rfl,hnil⟩|⟨g,n,c,rfl⟩
 ·have hd0:ds=[]:=List.eq_nil_of_length_eq_zero (by rw[<-zbr k ds,hnil];rfl)
  subst hd0;clear hf hkn hnil hrow;go_enter Tryz.func61,Tryz.ntmps61;go_wp2_with fail
  refine wp_loop_rounds 1 ?_;rw[rounds_succ];go_wp2_with fail
  go_ret;exact ⟨rfl,zB _ _⟩
 obtain ⟨hn,hroom⟩:=zgv hrow;rw[zbr] at hn;unfold maxLen at hroom;have HN:=zH hn;have HF:=zH hf;have HROW:=zH hrow;have HKN:=zH hkn;clear hn hf hrow hkn;go_enter Tryz.func61,Tryz.ntmps61;go_wp2_with fail
 go_loopw [1,5] (fun q j wr=>∃ (i:Nat) (A R:List D),ds=A++R/\A.length=i*4/\za7 4 (zaa R)/\j=.int .i64 i/\q=.int .i64 ((k+zba (zaa A):Nat):Int)/\Below w.heap.size w wr) (fun _ j _=>n-(intOf j).toNat)
 case atStart=>exact ⟨0,[],ds,rfl,by simp,HF.out,rfl,rfl,zB _ _⟩
 case round=>
  obtain ⟨i,A,R,hds,hal,hfr,rfl,rfl,hbw⟩:=hrel;have HD:=zH hds;have HAL:=zH hal;have HBW:=zH hbw;clear hds hal hbw;generalize hq:k+zba (zaa A)=q at *;have HQ:=zH hq;clear hq;rcases zct hfr with rfl|⟨item,rest,rfl,hfi,hfrest⟩
  ·have hin:i=n:=by
    have h1:=HN.out;rw[HD.out,List.append_nil,HAL.out] at h1;omega
   have hlt:¬((i:Int)<(n:Int)):=by omega
   clear hin hfr;go_wp2_with fail
   go_ret;exact ⟨congrArg (fun z:Nat=>Ending.returned (.int .i64 (z:Int))) (show q=k+zba (zaa ds) by rw[HD.out,List.append_nil,HQ.out]),HBW.out⟩
  have hil:item.length=4:=by have:=zfe hfi;rw[za0] at this;exact this
  have hlt:(i:Int)<(n:Int):=by have h1:=HN.out;rw[HD.out,List.length_append,List.length_append,HAL.out,hil] at h1;omega
  have HFR:=zH hfrest;clear hil hfr hfrest;obtain ⟨s0,e0,rfl,hfi_0⟩:=za4 hfi;clear hfi;obtain ⟨s1,e1,rfl,hfi_1⟩:=za4 hfi_0;clear hfi_0;obtain ⟨t2,v2,d2,e2,rfl,f2,hfi_2⟩:=zak (k:=1) rfl hfi_1;clear hfi_1;obtain ⟨t3,v3,d3,e3,rfl,f3,hfi_3⟩:=zak (k:=5) rfl hfi_2;clear hfi_2;obtain rfl:=zbh hfi_3;clear hfi_3
  have hqb:q+zba (zaa [D.str s0,D.str s1,D.row t2 1 v2 d2,D.row t3 5 v3 d3])<=4611686018427387904:=by have h1:=HKN.out;rw[HD.out,zao,zao,zaz,zaz] at h1;have:=HQ.out;omega
  simp only[zaa,erase,zba,cnt] at hqb;have hqp:0<q:=by have:=HQ.out;omega
  have hml:(zac k A).length=i*4:=by rw[zbr,HAL.out]
  obtain ⟨mk0,hmk⟩:∃ z,z=Mark.mark ((q:Nat):Int):=⟨_,rfl⟩;have HMK0:=zH hmk;clear hmk;obtain ⟨mk1,hmk⟩:∃ z,z=Mark.mark ((q+1:Nat):Int):=⟨_,rfl⟩;have HMK1:=zH hmk;clear hmk;obtain ⟨m2,hm_⟩:∃ m,m=q+1+1+zba (zaa d2):=⟨_,rfl⟩;have hmp2:0<m2:=by omega
  have hmb2:m2+0+zba (zaa d3)<=4611686018427387904:=by omega
  have hmz2:¬((m2:Int)<0):=by omega
  have HQ2:=zH hm_;clear hm_;obtain ⟨m3,hm_⟩:∃ m,m=m2+zba (zaa d3):=⟨_,rfl⟩;have hmp3:0<m3:=by omega
  have hmb3:m3+0<=4611686018427387904:=by omega
  have hmz3:¬((m3:Int)<0):=by omega
  have HQ3:=zH hm_;clear hm_
  have HRW:Hid (Row base w t 4 (.slice (some ⟨g,0,none⟩) n c) (zac k A++((D.str mk0)::(D.str mk1)::(D.row t2 1 v2 (zac (q+1+1) d2))::(D.row t3 5 v3 (zac (m2) d3))::(zac (k+zba (zaa (A++[D.str s0,D.str s1,D.row t2 1 v2 d2,D.row t3 5 v3 d3]))) rest)))):=zH (by
   have h:=HROW.out;rw[HD.out,<-List.append_assoc,zbt,zbt,HQ.out,List.append_assoc] at h;simp only[zac,marked,erase,cnt] at h
   try rw[HQ3.out]
   try rw[HQ2.out]
   rw[HMK1.out];rw[HMK0.out];exact h)
  generalize zac k A=M0 at *;have HL0:=zH hml;have HB0:=zH HBW.out;clear hml HBW
  obtain ⟨c0,-⟩:wr.cell? ⟨g,i*4,none⟩=some (.string mk0)/\wr.frozen? ⟨g,i*4,none⟩=false:=by have h:=HRW.out.below HB0.out;exact Row.cell h HL0.out
  have hpos:(0:Int)<(q:Int):=by omega
  have hbw:=HB0.out;go_wp2_with fail
  go_region_held3 (fun w'=>w'.cell? ⟨g,i*4,none⟩=some (.string mk0)/\Below w.heap.size w w')
   (first|exact ⟨c0,hbw.drew⟩|exact ⟨cell_keep hb1 (show wr.drew.cell? _=_ from c0),hbw.drew.trans (hb1.mono hbw.size)⟩|go_keep)
   (first|(go_at_call 83;refine (Mark.zcv ((q:Int)) _ hpos (by omega)).mono ?_;rintro e w1 ⟨rfl,hb1⟩;rw[show Mark.mark ((q:Int))=mk0 from HMK0.out.symm]))
  all_goals
   have HB1:=zH (hbw.drew.trans (hb1.mono hbw.size));clear hb1 hbw hpos HB0 c0
   obtain ⟨c1,-⟩:w1.cell? ⟨g,i*4+1,none⟩=some (.string mk1)/\w1.frozen? ⟨g,i*4+1,none⟩=false:=by have h:=HRW.out.below HB1.out;replace h:=zal h;exact Row.cell h (by simp only[List.length_append,List.length_cons,List.length_nil,HL0.out])
   have hpos:(0:Int)<(q:Int)+1:=by omega
   have hbw:=HB1.out;go_wp2_with fail
   go_region_held3 (fun w'=>w'.cell? ⟨g,i*4+1,none⟩=some (.string mk1)/\Below w.heap.size w w')
    (first|exact ⟨c1,hbw.drew⟩|exact ⟨cell_keep hb2 (show w1.drew.cell? _=_ from c1),hbw.drew.trans (hb2.mono hbw.size)⟩|go_keep)
    (first|(go_at_call 83;refine (Mark.zcv ((q:Int)+1) _ hpos (by omega)).mono ?_;rintro e w2 ⟨rfl,hb2⟩;rw[show Mark.mark ((q:Int)+1)=mk1 from HMK1.out.symm]))
   all_goals
    have HB2:=zH (hbw.drew.trans (hb2.mono hbw.size));clear hb2 hbw hpos HB1 c1
    obtain ⟨c2,-⟩:w2.cell? ⟨g,i*4+2,none⟩=some (v2)/\w2.frozen? ⟨g,i*4+2,none⟩=false:=by have h:=HRW.out.below HB2.out;replace h:=zal h;replace h:=zal h;exact Row.cell h (by simp only[List.length_append,List.length_cons,List.length_nil,HL0.out])
    have hrk:Row base w2 t2 1 v2 (zac (q+1+1) d2):=by have h:=HRW.out.below HB2.out;replace h:=zal h;replace h:=zal h;exact zfg h
    have KN:Hid (Calls Tryz.prog 37 #[v2,.int .i64 ((q:Int)+1+1)] w2 fun e w'=>e=.returned (.int .i64 (m2:Int))/\Below w2.heap.size w2 w'):=zH (by have h:=zew base (q+1+1) t2 w2 v2 d2 f2 hrk (by omega) (by omega);rw[<-HQ2.out] at h;exact h)
    clear hrk;go_wp2_with fail
    refine KN.out.mono ?_;rintro e w3 ⟨rfl,hb3⟩;have HB3:=zH (HB2.out.trans (hb3.mono HB2.out.size));clear hb3 KN HB2 c2
    obtain ⟨c3,-⟩:w3.cell? ⟨g,i*4+3,none⟩=some (v3)/\w3.frozen? ⟨g,i*4+3,none⟩=false:=by have h:=HRW.out.below HB3.out;replace h:=zal h;replace h:=zal h;replace h:=zal h;exact Row.cell h (by simp only[List.length_append,List.length_cons,List.length_nil,HL0.out])
    have hrk:Row base w3 t3 5 v3 (zac (m2) d3):=by have h:=HRW.out.below HB3.out;replace h:=zal h;replace h:=zal h;replace h:=zal h;exact zfg h
    have KN:Hid (Calls Tryz.prog 109 #[v3,.int .i64 ((m2:Int))] w3 fun e w'=>e=.returned (.int .i64 (m3:Int))/\Below w3.heap.size w3 w'):=zH (by have h:=zty base (m2) t3 w3 v3 d3 f3 hrk (by omega) (by omega);rw[<-HQ3.out] at h;exact h)
    clear hrk;go_wp2_with fail
    refine KN.out.mono ?_;rintro e w4 ⟨rfl,hb4⟩;have HB4:=zH (HB3.out.trans (hb4.mono HB3.out.size));clear hb4 KN HB3 c3
    have HE:Hid (m3=k+zba (zaa (A++[D.str s0,D.str s1,D.row t2 1 v2 d2,D.row t3 5 v3 d3]))):=zH (by rw[zao,zaz];simp only[zaa,erase,zba,cnt];have:=HQ.out;have h2':=HQ2.out;have h3':=HQ3.out;omega)
    go_wp2_with fail
    go_roundw
    case rel=>exact ⟨i+1,A++[D.str s0,D.str s1,D.row t2 1 v2 d2,D.row t3 5 v3 d3],rest,by rw[HD.out,List.append_assoc],by rw[List.length_append,HAL.out,Nat.succ_mul];rfl,HFR.out,by go_num,congrArg (fun z:Nat=>Value.int .i64 (z:Int)) HE.out,HB4.out⟩
    case measure=>simp[intOf];omega
end Data
namespace Data
open Go.RowKit
open Strs Tree zbv
theorem zu8 (base k:Nat) (w:World) (ds:List D) (hf:zdc (env 5) (zaa ds)) (hown:Own base w (zd9 k ds)) (hk:0<k) (hkn:k+zdt (zaa ds)<=4611686018427387904):
  Calls Tryz.prog 25 #[agg ds,.int .i64 (k:Int)] w fun e w'=>e=.returned (.int .i64 ((k+zdt (zaa ds):Nat):Int))/\Below w.heap.size w w':=by
 obtain ⟨t0,v0,d0,e0,rfl,f0,hf_0⟩:=zak (k:=4) rfl hf;clear hf;obtain ⟨s1,e1,rfl,hf_1⟩:=za4 hf_0;clear hf_0;obtain ⟨x2,e2,rfl,hf_2⟩:=zcf hf_1;clear hf_1;obtain ⟨t3,v3,d3,e3,rfl,f3,hf_3⟩:=zak (k:=1) rfl hf_2;clear hf_2;obtain ⟨t4,v4,d4,e4,rfl,f4,hf_4⟩:=zak (k:=1) rfl hf_3;clear hf_3;obtain ⟨t5,v5,d5,e5,rfl,f5,hf_5⟩:=zak (k:=5) rfl hf_4;clear hf_4;obtain rfl:=zbh hf_5
 clear hf_5;simp only[zaa,erase,zdt,zox] at hkn;have hb0:Below w.heap.size w (w.alloc (Obj.cells #[v0,Value.string s1,Value.bool x2,v3,v4,v5] 43)):=(zB _ _).alloc (zL _) _;have C0:Hid (Cells w.heap.size [D.row t0 4 v0 d0,D.str s1,D.bool x2,D.row t3 1 v3 d3,D.row t4 1 v4 d4,D.row t5 5 v5 d5] (w.alloc (Obj.cells #[v0,Value.string s1,Value.bool x2,v3,v4,v5] 43))):=zH (zae w [D.row t0 4 v0 d0,D.str s1,D.bool x2,D.row t3 1 v3 d3,D.row t4 1 v4 d4,D.row t5 5 v5 d5] _)
 have HB0:=zH hb0;obtain ⟨m0,hm_⟩:∃ m,m=k+zba (zaa d0):=⟨_,rfl⟩;have hmp0:0<m0:=by omega
 have hmb0:m0+0+zba (zaa d3)+zba (zaa d4)+zba (zaa d5)<=4611686018427387904:=by omega
 have hmz0:¬((m0:Int)<0):=by omega
 have HQ0:=zH hm_;clear hm_;obtain ⟨m1,hm_⟩:∃ m,m=m0+zdt (zaa [D.str s1,D.bool x2,D.row t3 1 v3 d3,D.row t4 1 v4 d4,D.row t5 5 v5 d5]):=⟨_,rfl⟩;have hmu1:=hm_;simp only[zaa,erase,zdt,zox] at hmu1;have hmp1:0<m1:=by omega
 have hmb1:m1+0<=4611686018427387904:=by omega
 have hmz1:¬((m1:Int)<0):=by omega
 have HQ1:=zH hm_;clear hm_;have HU1:=zH hmu1;clear hmu1
 have HO:Hid (Own base (w.alloc (Obj.cells #[v0,Value.string s1,Value.bool x2,v3,v4,v5] 43)) ((D.row t0 4 v0 (zac (k) d0))::(zd9 (m0) [D.str s1,D.bool x2,D.row t3 1 v3 d3,D.row t4 1 v4 d4,D.row t5 5 v5 d5]++[]))):=zH (by
  have h:=hown.below hb0
  try rw[HU1.out]
  try rw[HQ0.out]
  first|(simp only[zd9,zko,zox,erase,Nat.add_zero,Nat.add_assoc,List.append_nil] at h ⊢;exact h)|(simp only[zd9,zko,zox,erase,Nat.add_zero,Nat.add_assoc,List.cons_append,List.nil_append,List.append_nil] at h ⊢;exact h))
 clear hown hb0;rw[show agg [D.row t0 4 v0 d0,D.str s1,D.bool x2,D.row t3 1 v3 d3,D.row t4 1 v4 d4,D.row t5 5 v5 d5]=Value.agg #[v0,Value.string s1,Value.bool x2,v3,v4,v5] from rfl]
 go_enter Tryz.func25,Tryz.ntmps25;have a0:=C0.out.at 0 (D.row t0 4 v0 d0) rfl;simp only[val] at a0;have ho:Own base (w.alloc (Obj.cells #[v0,Value.string s1,Value.bool x2,v3,v4,v5] 43)) ([]++(D.row t0 4 v0 (zac (k) d0))::(zd9 (m0) [D.str s1,D.bool x2,D.row t3 1 v3 d3,D.row t4 1 v4 d4,D.row t5 5 v5 d5]++[])):=HO.out;have KN:Hid (Calls Tryz.prog 61 #[v0,.int .i64 (k:Int)] (w.alloc (Obj.cells #[v0,Value.string s1,Value.bool x2,v3,v4,v5] 43)) fun e w'=>e=.returned (.int .i64 (m0:Int))/\Below (w.alloc (Obj.cells #[v0,Value.string s1,Value.bool x2,v3,v4,v5] 43)).heap.size (w.alloc (Obj.cells #[v0,Value.string s1,Value.bool x2,v3,v4,v5] 43)) w'):=zH (by have h:=zqb base k t0 (w.alloc (Obj.cells #[v0,Value.string s1,Value.bool x2,v3,v4,v5] 43)) v0 d0 f0 (row_iff.1 (zgo ho)) (by omega) (by have:=HQ0.out;omega);rw[<-HQ0.out] at h;exact h)
 clear ho;go_wp2_with fail
 refine KN.out.mono ?_;rintro e w1 ⟨rfl,hb1⟩;have HO':=zH (HO.out.below hb1);clear HO;have HO:=HO';clear HO';have HB1:=zH (HB0.out.trans (hb1.mono HB0.out.size));have C1:=zH (C0.out.step hb1);clear hb1 KN C0 HB0 a0;have a1:=C1.out.at 1 (D.str s1) rfl;simp only[val] at a1;have a2:=C1.out.at 2 (D.bool x2) rfl;simp only[val] at a2;have a3:=C1.out.at 3 (D.row t3 1 v3 d3) rfl;simp only[val] at a3
 have a4:=C1.out.at 4 (D.row t4 1 v4 d4) rfl;simp only[val] at a4;have a5:=C1.out.at 5 (D.row t5 5 v5 d5) rfl;simp only[val] at a5;have ho:Own base w1 (((D.row t0 4 v0 (zac (k) d0))::[])++(zd9 (m0) [D.str s1,D.bool x2,D.row t3 1 v3 d3,D.row t4 1 v4 d4,D.row t5 5 v5 d5]++[])):=HO.out;have KN:Hid (Calls Tryz.prog 21 #[.agg #[Value.string s1,Value.bool x2,v3,v4,v5],.int .i64 (m0:Int)] w1 fun e w'=>e=.returned (.int .i64 (m1:Int))/\Below w1.heap.size w1 w'):=zH (by have h:=zks base m0 w1 [D.str s1,D.bool x2,D.row t3 1 v3 d3,D.row t4 1 v4 d4,D.row t5 5 v5 d5] (zdc.cons _ _ _ _ (Fit.str _) (zdc.cons _ _ _ _ (Fit.bool _) (zdc.cons _ _ _ _ (Fit.row _ _ _ rfl f3) (zdc.cons _ _ _ _ (Fit.row _ _ _ rfl f4) (zdc.cons _ _ _ _ (Fit.row _ _ _ rfl f5) zdc.nil))))) (Own.left (Own.right ho)) (by omega) (by rw[<-HQ1.out];omega);rw[<-HQ1.out] at h;exact h)
 clear ho;go_wp2_with fail
 refine KN.out.mono ?_;rintro e w2 ⟨rfl,hb2⟩;have HO':=zH (HO.out.below hb2);clear HO;have HO:=HO';clear HO';have HB2:=zH (HB1.out.trans (hb2.mono HB1.out.size));have C2:=zH (C1.out.step hb2);clear hb2 KN C1 HB1 a1 a2 a3 a4 a5;go_wp2_with fail
 go_ret;refine ⟨congrArg (fun z:Nat=>Ending.returned (.int .i64 (z:Int))) (show m1=k+zdt (zaa [D.row t0 4 v0 d0,D.str s1,D.bool x2,D.row t3 1 v3 d3,D.row t4 1 v4 d4,D.row t5 5 v5 d5]) from ?_),HB2.out⟩
 simp only[zaa,erase,zdt,zox];have h0':=HQ0.out;have h1':=HU1.out;omega
end Data
namespace fnExactParseUnitW
open Go.RowKit
open Strs Tree zbv Go.Proofs.YtlmhgeanknhcfaaGreatDoor.Data
theorem zej {lo t k:Nat} {w:World} {v:Value} {ds:List D} (h:Holds lo w (.row t k v ds)):∃ a n c,v=.slice a n c:=by rw[Holds] at h;obtain ⟨⟨a,n,c,e,-⟩,-⟩:=h;exact ⟨a,n,c,e⟩
theorem zxt (s:ByteArray) (hm:s.size<=maxLen) (w:World) {a:Addr} (hM:Errs.z1q a w) (ps:List P) (z:Bool) (hf:zdc (env 5) ps) (hc:zdt ps<=4611686018427387800)
  (KSP:s.size<=1048576->∀ w',Errs.z1q a w'->Calls Tryz.prog 22 #[.string s] w' fun r w''=>∃ es,r=.returned (.tuple #[agg es,.bool z])/\zaa es=ps/\zat 0 w'' es/\Below w'.heap.size w' w'')
  (KIM:s.size<=1048576->∀ w',Errs.z1q a w'->Calls Tryz.prog 23 #[.string s] w' fun r w''=>∃ es,r=.returned (.tuple #[agg es,.bool z])/\zaa es=ps/\Own w'.heap.size w'' es/\Below w'.heap.size w' w''):
  Calls Tryz.prog 6 #[.string s] w fun e w'=>e=.returned (.bool true)/\Below w.heap.size w w':=by
 unfold maxLen at hm;by_cases hbig:(1048576:Int)<(s.size:Int)
 ·clear KSP KIM
  go_enter Tryz.func6,Tryz.ntmps6;go_wp2_with fail
  go_ret;exact ⟨rfl,zB _ _⟩
 have hs:s.size<=1048576:=by omega
 have KS:=zH (KSP hs w hM);have KI:=zH (KIM hs);have HF:=zH hf;have HC:=zH hc;have HM:=zH hM;clear KSP KIM hf hc hM hs;go_enter Tryz.func6,Tryz.ntmps6;go_wp2_with fail
 refine KS.out.mono ?_;rintro e w1 ⟨es,rfl,he,hh,hb⟩;have hg:zdc (env 5) (zaa es):=he▸HF.out;have HEa:=zH he;clear he;obtain ⟨at0,av0,ad0,ae0,rfl,af0,hg_0⟩:=zak (k:=4) rfl hg;clear hg;obtain ⟨as1,ae1,rfl,hg_1⟩:=za4 hg_0;clear hg_0;obtain ⟨ax2,ae2,rfl,hg_2⟩:=zcf hg_1;clear hg_1;obtain ⟨at3,av3,ad3,ae3,rfl,af3,hg_3⟩:=zak (k:=1) rfl hg_2;clear hg_2;obtain ⟨at4,av4,ad4,ae4,rfl,af4,hg_4⟩:=zak (k:=1) rfl hg_3
 clear hg_3;obtain ⟨at5,av5,ad5,ae5,rfl,af5,hg_5⟩:=zak (k:=5) rfl hg_4;clear hg_4;obtain rfl:=zbh hg_5;clear hg_5;obtain ⟨aa0,al0,ac0,rfl⟩:=zej (zbo.1 hh (D.row at0 4 av0 ad0) (by simp));obtain ⟨aa3,al3,ac3,rfl⟩:=zej (zbo.1 hh (D.row at3 1 av3 ad3) (by simp));obtain ⟨aa4,al4,ac4,rfl⟩:=zej (zbo.1 hh (D.row at4 1 av4 ad4) (by simp));obtain ⟨aa5,al5,ac5,rfl⟩:=zej (zbo.1 hh (D.row at5 5 av5 ad5) (by simp))
 rw[show agg [D.row at0 4 (.slice aa0 al0 ac0) ad0,D.str as1,D.bool ax2,D.row at3 1 (.slice aa3 al3 ac3) ad3,D.row at4 1 (.slice aa4 al4 ac4) ad4,D.row at5 5 (.slice aa5 al5 ac5) ad5]=Value.agg #[.slice aa0 al0 ac0,Value.string as1,Value.bool ax2,.slice aa3 al3 ac3,.slice aa4 al4 ac4,.slice aa5 al5 ac5] from rfl]
 have hba:Below w1.heap.size w1 (w1.alloc (Obj.cells #[.slice aa0 al0 ac0,Value.string as1,Value.bool ax2,.slice aa3 al3 ac3,.slice aa4 al4 ac4,.slice aa5 al5 ac5] 43)):=(zB _ _).alloc (zL _) _;have HA1:Hid (Cells w1.heap.size [D.row at0 4 (.slice aa0 al0 ac0) ad0,D.str as1,D.bool ax2,D.row at3 1 (.slice aa3 al3 ac3) ad3,D.row at4 1 (.slice aa4 al4 ac4) ad4,D.row at5 5 (.slice aa5 al5 ac5) ad5] (w1.alloc (Obj.cells #[.slice aa0 al0 ac0,Value.string as1,Value.bool ax2,.slice aa3 al3 ac3,.slice aa4 al4 ac4,.slice aa5 al5 ac5] 43))):=zH (zae w1 [D.row at0 4 (.slice aa0 al0 ac0) ad0,D.str as1,D.bool ax2,D.row at3 1 (.slice aa3 al3 ac3) ad3,D.row at4 1 (.slice aa4 al4 ac4) ad4,D.row at5 5 (.slice aa5 al5 ac5) ad5] _)
 have HH1:=zH (hh.below hba);have hb1:=hb.trans (hba.mono hb.size);have HB1:=zH hb1;have HM1:=zH (HM.out.keep hb1);clear hb hba hh hb1 KS HM af0 af3 af4 af5;go_wp2_with fail
 generalize (w1.alloc (Obj.cells #[.slice aa0 al0 ac0,Value.string as1,Value.bool ax2,.slice aa3 al3 ac3,.slice aa4 al4 ac4,.slice aa5 al5 ac5] 43))=z1 at *;generalize w1.heap.size=ga at *;refine (KI.out _ HM1.out).mono ?_;rintro e w2 ⟨es,rfl,he,ho,hb⟩;have hg:zdc (env 5) (zaa es):=he▸HF.out;have HEb:=zH he;clear he;obtain ⟨bt0,bv0,bd0,be0,rfl,bf0,hg_0⟩:=zak (k:=4) rfl hg;clear hg;obtain ⟨bs1,be1,rfl,hg_1⟩:=za4 hg_0
 clear hg_0;obtain ⟨bx2,be2,rfl,hg_2⟩:=zcf hg_1;clear hg_1;obtain ⟨bt3,bv3,bd3,be3,rfl,bf3,hg_3⟩:=zak (k:=1) rfl hg_2;clear hg_2;obtain ⟨bt4,bv4,bd4,be4,rfl,bf4,hg_4⟩:=zak (k:=1) rfl hg_3;clear hg_3;obtain ⟨bt5,bv5,bd5,be5,rfl,bf5,hg_5⟩:=zak (k:=5) rfl hg_4;clear hg_4;obtain rfl:=zbh hg_5;clear hg_5;obtain ⟨ba0,bl0,bc0,rfl⟩:=zbd (zam.1 ho.good (D.row bt0 4 bv0 bd0) (by simp))
 obtain ⟨ba3,bl3,bc3,rfl⟩:=zbd (zam.1 ho.good (D.row bt3 1 bv3 bd3) (by simp));obtain ⟨ba4,bl4,bc4,rfl⟩:=zbd (zam.1 ho.good (D.row bt4 1 bv4 bd4) (by simp));obtain ⟨ba5,bl5,bc5,rfl⟩:=zbd (zam.1 ho.good (D.row bt5 5 bv5 bd5) (by simp));rw[show agg [D.row bt0 4 (.slice ba0 bl0 bc0) bd0,D.str bs1,D.bool bx2,D.row bt3 1 (.slice ba3 bl3 bc3) bd3,D.row bt4 1 (.slice ba4 bl4 bc4) bd4,D.row bt5 5 (.slice ba5 bl5 bc5) bd5]=Value.agg #[.slice ba0 bl0 bc0,Value.string bs1,Value.bool bx2,.slice ba3 bl3 bc3,.slice ba4 bl4 bc4,.slice ba5 bl5 bc5] from rfl]
 have HA2:=zH (HA1.out.step hb);have hba:Below w2.heap.size w2 (w2.alloc (Obj.cells #[.slice ba0 bl0 bc0,Value.string bs1,Value.bool bx2,.slice ba3 bl3 bc3,.slice ba4 bl4 bc4,.slice ba5 bl5 bc5] 43)):=(zB _ _).alloc (zL _) _;have HG2:Hid (Cells w2.heap.size [D.row bt0 4 (.slice ba0 bl0 bc0) bd0,D.str bs1,D.bool bx2,D.row bt3 1 (.slice ba3 bl3 bc3) bd3,D.row bt4 1 (.slice ba4 bl4 bc4) bd4,D.row bt5 5 (.slice ba5 bl5 bc5) bd5] (w2.alloc (Obj.cells #[.slice ba0 bl0 bc0,Value.string bs1,Value.bool bx2,.slice ba3 bl3 bc3,.slice ba4 bl4 bc4,.slice ba5 bl5 bc5] 43))):=zH (zae w2 [D.row bt0 4 (.slice ba0 bl0 bc0) bd0,D.str bs1,D.bool bx2,D.row bt3 1 (.slice ba3 bl3 bc3) bd3,D.row bt4 1 (.slice ba4 bl4 bc4) bd4,D.row bt5 5 (.slice ba5 bl5 bc5) bd5] _)
 have HO2:=zH (ho.below hba);have HLT:Hid (∀ b,b∈zah [D.row bt0 4 (.slice ba0 bl0 bc0) bd0,D.str bs1,D.bool bx2,D.row bt3 1 (.slice ba3 bl3 bc3) bd3,D.row bt4 1 (.slice ba4 bl4 bc4) bd4,D.row bt5 5 (.slice ba5 bl5 bc5) bd5]->b<w2.heap.size):=zH (fun b h=>ho.lt b h)
 have HLO:Hid (∀ b,b∈zah [D.row bt0 4 (.slice ba0 bl0 bc0) bd0,D.str bs1,D.bool bx2,D.row bt3 1 (.slice ba3 bl3 bc3) bd3,D.row bt4 1 (.slice ba4 bl4 bc4) bd4,D.row bt5 5 (.slice ba5 bl5 bc5) bd5]->z1.heap.size<=b):=zH ho.lo;have HGA:Hid (ga<z1.heap.size):=zH HA1.out.1;have HR2:=zH (hb.trans (hba.mono hb.size));have HA2b:=zH (HA2.out.step hba);have p0:=HA2.out.at 0 (D.row at0 4 (.slice aa0 al0 ac0) ad0) rfl
 simp only[val] at p0;have p1:=HA2.out.at 1 (D.str as1) rfl;simp only[val] at p1;have p2:=HA2.out.at 2 (D.bool ax2) rfl;simp only[val] at p2;have p3:=HA2.out.at 3 (D.row at3 1 (.slice aa3 al3 ac3) ad3) rfl;simp only[val] at p3;have p4:=HA2.out.at 4 (D.row at4 1 (.slice aa4 al4 ac4) ad4) rfl;simp only[val] at p4;have p5:=HA2.out.at 5 (D.row at5 5 (.slice aa5 al5 ac5) ad5) rfl;simp only[val] at p5;have plt:=HA2.out.1
 clear ho hb hba HA1 HA2 bf0 bf3 bf4 bf5;go_wp2_with fail
 clear p0 p1 p2 p3 p4 p5 plt;generalize (w2.alloc (Obj.cells #[.slice ba0 bl0 bc0,Value.string bs1,Value.bool bx2,.slice ba3 bl3 bc3,.slice ba4 bl4 bc4,.slice ba5 bl5 bc5] 43))=z2 at *;generalize w2.heap.size=gb at *;have KE:=zH (z2t _ _ z2 [D.row bt0 4 (.slice ba0 bl0 bc0) bd0,D.str bs1,D.bool bx2,D.row bt3 1 (.slice ba3 bl3 bc3) bd3,D.row bt4 1 (.slice ba4 bl4 bc4) bd4,D.row bt5 5 (.slice ba5 bl5 bc5) bd5] [D.row at0 4 (.slice aa0 al0 ac0) ad0,D.str as1,D.bool ax2,D.row at3 1 (.slice aa3 al3 ac3) ad3,D.row at4 1 (.slice aa4 al4 ac4) ad4,D.row at5 5 (.slice aa5 al5 ac5) ad5] (HEb.out.trans HEa.out.symm) (HEb.out▸HF.out) HO2.out.holds (HH1.out.below HR2.out))
 rw[show agg [D.row bt0 4 (.slice ba0 bl0 bc0) bd0,D.str bs1,D.bool bx2,D.row bt3 1 (.slice ba3 bl3 bc3) bd3,D.row bt4 1 (.slice ba4 bl4 bc4) bd4,D.row bt5 5 (.slice ba5 bl5 bc5) bd5]=Value.agg #[.slice ba0 bl0 bc0,Value.string bs1,Value.bool bx2,.slice ba3 bl3 bc3,.slice ba4 bl4 bc4,.slice ba5 bl5 bc5] from rfl,show agg [D.row at0 4 (.slice aa0 al0 ac0) ad0,D.str as1,D.bool ax2,D.row at3 1 (.slice aa3 al3 ac3) ad3,D.row at4 1 (.slice aa4 al4 ac4) ad4,D.row at5 5 (.slice aa5 al5 ac5) ad5]=Value.agg #[.slice aa0 al0 ac0,Value.string as1,Value.bool ax2,.slice aa3 al3 ac3,.slice aa4 al4 ac4,.slice aa5 al5 ac5] from rfl] at KE
 refine KE.out.mono ?_;rintro e w3 ⟨rfl,hb⟩;clear KE;have HA3:=zH (HA2b.out.step hb);have HG3:=zH (HG2.out.step hb);have HO3:=zH (HO2.out.below hb);have HR3:=zH (HR2.out.trans (hb.mono HR2.out.size));clear hb HA2b HG2 HO2 HR2;have hcb:zdt (zaa [D.row bt0 4 (.slice ba0 bl0 bc0) bd0,D.str bs1,D.bool bx2,D.row bt3 1 (.slice ba3 bl3 bc3) bd3,D.row bt4 1 (.slice ba4 bl4 bc4) bd4,D.row bt5 5 (.slice ba5 bl5 bc5) bd5])<=4611686018427387800:=by rw[HEb.out];exact HC.out
 have hKM:=z5y z1.heap.size 1 w3 [D.row bt0 4 (.slice ba0 bl0 bc0) bd0,D.str bs1,D.bool bx2,D.row bt3 1 (.slice ba3 bl3 bc3) bd3,D.row bt4 1 (.slice ba4 bl4 bc4) bd4,D.row bt5 5 (.slice ba5 bl5 bc5) bd5] (HEb.out▸HF.out) HO3.out (by omega) (by omega);obtain ⟨m,hmm⟩:∃ m,m=1+zdt (zaa [D.row bt0 4 (.slice ba0 bl0 bc0) bd0,D.str bs1,D.bool bx2,D.row bt3 1 (.slice ba3 bl3 bc3) bd3,D.row bt4 1 (.slice ba4 bl4 bc4) bd4,D.row bt5 5 (.slice ba5 bl5 bc5) bd5]):=⟨_,rfl⟩
 rw[<-hmm,show ((1:Nat):Int)=1 from rfl,show agg [D.row bt0 4 (.slice ba0 bl0 bc0) bd0,D.str bs1,D.bool bx2,D.row bt3 1 (.slice ba3 bl3 bc3) bd3,D.row bt4 1 (.slice ba4 bl4 bc4) bd4,D.row bt5 5 (.slice ba5 bl5 bc5) bd5]=Value.agg #[.slice ba0 bl0 bc0,Value.string bs1,Value.bool bx2,.slice ba3 bl3 bc3,.slice ba4 bl4 bc4,.slice ba5 bl5 bc5] from rfl] at hKM
 have hmb:m<=4611686018427387900:=by omega
 have hmp:¬((m:Int)<0):=by omega
 have HMM:=zH hmm;have HCB:=zH hcb;have KM:=zH hKM;clear hKM hmm hcb;have q0:=HG3.out.at 0 (D.row bt0 4 (.slice ba0 bl0 bc0) bd0) rfl;simp only[val] at q0;have q1:=HG3.out.at 1 (D.str bs1) rfl;simp only[val] at q1;have q2:=HG3.out.at 2 (D.bool bx2) rfl;simp only[val] at q2;have q3:=HG3.out.at 3 (D.row bt3 1 (.slice ba3 bl3 bc3) bd3) rfl;simp only[val] at q3;have q4:=HG3.out.at 4 (D.row bt4 1 (.slice ba4 bl4 bc4) bd4) rfl
 simp only[val] at q4;have q5:=HG3.out.at 5 (D.row bt5 5 (.slice ba5 bl5 bc5) bd5) rfl;simp only[val] at q5;have qlt:=HG3.out.1;go_wp2_with fail
 refine KM.out.mono ?_;rintro e w4 ⟨rfl,ho,hx⟩;clear KM q0 q1 q2 q3 q4 q5 qlt;have HG4:=zH (HG3.out.exc hx (fun e=>by have:=HLT.out _ e;omega))
 have HA4:=zH (HA3.out.exc hx (fun e=>by have h1:=HLO.out _ e;have h2:=HGA.out;omega))
 have HR4:=zH (HR3.out.trans (hx.low HR3.out.size HLO.out));have HO4:=zH ho;clear ho hx HG3 HA3 HO3 HR3 HLT HLO HGA;have hKH:=zu8 z1.heap.size 1 w4 [D.row bt0 4 (.slice ba0 bl0 bc0) bd0,D.str bs1,D.bool bx2,D.row bt3 1 (.slice ba3 bl3 bc3) bd3,D.row bt4 1 (.slice ba4 bl4 bc4) bd4,D.row bt5 5 (.slice ba5 bl5 bc5) bd5] (HEb.out▸HF.out) HO4.out (by omega) (by have:=HCB.out;omega);rw[<-HMM.out,show ((1:Nat):Int)=1 from rfl,show agg [D.row bt0 4 (.slice ba0 bl0 bc0) bd0,D.str bs1,D.bool bx2,D.row bt3 1 (.slice ba3 bl3 bc3) bd3,D.row bt4 1 (.slice ba4 bl4 bc4) bd4,D.row bt5 5 (.slice ba5 bl5 bc5) bd5]=Value.agg #[.slice ba0 bl0 bc0,Value.string bs1,Value.bool bx2,.slice ba3 bl3 bc3,.slice ba4 bl4 bc4,.slice ba5 bl5 bc5] from rfl] at hKH
 have KH:=zH hKH;clear hKH;have q0:=HG4.out.at 0 (D.row bt0 4 (.slice ba0 bl0 bc0) bd0) rfl;simp only[val] at q0;have q1:=HG4.out.at 1 (D.str bs1) rfl;simp only[val] at q1;have q2:=HG4.out.at 2 (D.bool bx2) rfl;simp only[val] at q2;have q3:=HG4.out.at 3 (D.row bt3 1 (.slice ba3 bl3 bc3) bd3) rfl;simp only[val] at q3;have q4:=HG4.out.at 4 (D.row bt4 1 (.slice ba4 bl4 bc4) bd4) rfl;simp only[val] at q4
 have q5:=HG4.out.at 5 (D.row bt5 5 (.slice ba5 bl5 bc5) bd5) rfl;simp only[val] at q5;have qlt:=HG4.out.1;go_wp2_with fail
 refine KH.out.mono ?_;rintro e w5 ⟨rfl,hb⟩;clear KH q0 q1 q2 q3 q4 q5 qlt;have HA5:=zH (HA4.out.step hb);have HG5:=zH (HG4.out.step hb);have HO5:=zH (HO4.out.below hb);have HR5:=zH (HR4.out.trans (hb.mono HR4.out.size));clear hb HA4 HG4 HO4 HR4;go_wp2_with fail
 refine (KI.out _ (HM1.out.keep HR5.out)).mono ?_;rintro e w6 ⟨es,rfl,he,ho,hb⟩;clear KI;have hg:zdc (env 5) (zaa es):=he▸HF.out;have HEc:=zH he;clear he;obtain ⟨ct0,cv0,cd0,ce0,rfl,cf0,hg_0⟩:=zak (k:=4) rfl hg;clear hg;obtain ⟨cs1,ce1,rfl,hg_1⟩:=za4 hg_0;clear hg_0;obtain ⟨cx2,ce2,rfl,hg_2⟩:=zcf hg_1;clear hg_1;obtain ⟨ct3,cv3,cd3,ce3,rfl,cf3,hg_3⟩:=zak (k:=1) rfl hg_2
 clear hg_2;obtain ⟨ct4,cv4,cd4,ce4,rfl,cf4,hg_4⟩:=zak (k:=1) rfl hg_3;clear hg_3;obtain ⟨ct5,cv5,cd5,ce5,rfl,cf5,hg_5⟩:=zak (k:=5) rfl hg_4;clear hg_4;obtain rfl:=zbh hg_5;clear hg_5;obtain ⟨ca0,cl0,cc0,rfl⟩:=zbd (zam.1 ho.good (D.row ct0 4 cv0 cd0) (by simp));obtain ⟨ca3,cl3,cc3,rfl⟩:=zbd (zam.1 ho.good (D.row ct3 1 cv3 cd3) (by simp));obtain ⟨ca4,cl4,cc4,rfl⟩:=zbd (zam.1 ho.good (D.row ct4 1 cv4 cd4) (by simp))
 obtain ⟨ca5,cl5,cc5,rfl⟩:=zbd (zam.1 ho.good (D.row ct5 5 cv5 cd5) (by simp));rw[show agg [D.row ct0 4 (.slice ca0 cl0 cc0) cd0,D.str cs1,D.bool cx2,D.row ct3 1 (.slice ca3 cl3 cc3) cd3,D.row ct4 1 (.slice ca4 cl4 cc4) cd4,D.row ct5 5 (.slice ca5 cl5 cc5) cd5]=Value.agg #[.slice ca0 cl0 cc0,Value.string cs1,Value.bool cx2,.slice ca3 cl3 cc3,.slice ca4 cl4 cc4,.slice ca5 cl5 cc5] from rfl]
 have hba:Below w6.heap.size w6 (w6.alloc (Obj.cells #[.slice ca0 cl0 cc0,Value.string cs1,Value.bool cx2,.slice ca3 cl3 cc3,.slice ca4 cl4 cc4,.slice ca5 cl5 cc5] 43)):=(zB _ _).alloc (zL _) _;have HA6:=zH (HA5.out.step hb);have hbx:=hb.trans (hba.mono hb.size);have HG6:=zH (HG5.out.step hbx);have HO6:=zH (HO5.out.below hbx);have HOC:=zH (ho.below hba);have HR6:=zH (HR5.out.trans (hbx.mono HR5.out.size))
 have p0:=HA6.out.at 0 (D.row at0 4 (.slice aa0 al0 ac0) ad0) rfl;simp only[val] at p0;have p1:=HA6.out.at 1 (D.str as1) rfl;simp only[val] at p1;have p2:=HA6.out.at 2 (D.bool ax2) rfl;simp only[val] at p2;have p3:=HA6.out.at 3 (D.row at3 1 (.slice aa3 al3 ac3) ad3) rfl;simp only[val] at p3;have p4:=HA6.out.at 4 (D.row at4 1 (.slice aa4 al4 ac4) ad4) rfl;simp only[val] at p4;have p5:=HA6.out.at 5 (D.row at5 5 (.slice aa5 al5 ac5) ad5) rfl
 simp only[val] at p5;have plt:=HA6.out.1;clear ho hb hba hbx HA5 HG5 HO5 HR5 cf0 cf3 cf4 cf5;go_wp2_with fail
 clear p0 p1 p2 p3 p4 p5 plt;clear HA6;generalize (w6.alloc (Obj.cells #[.slice ca0 cl0 cc0,Value.string cs1,Value.bool cx2,.slice ca3 cl3 cc3,.slice ca4 cl4 cc4,.slice ca5 cl5 cc5] 43))=z6 at *;generalize w6.heap.size=gc at *;have KE:=zH (z2t _ _ z6 [D.row ct0 4 (.slice ca0 cl0 cc0) cd0,D.str cs1,D.bool cx2,D.row ct3 1 (.slice ca3 cl3 cc3) cd3,D.row ct4 1 (.slice ca4 cl4 cc4) cd4,D.row ct5 5 (.slice ca5 cl5 cc5) cd5] [D.row at0 4 (.slice aa0 al0 ac0) ad0,D.str as1,D.bool ax2,D.row at3 1 (.slice aa3 al3 ac3) ad3,D.row at4 1 (.slice aa4 al4 ac4) ad4,D.row at5 5 (.slice aa5 al5 ac5) ad5] (HEc.out.trans HEa.out.symm) (HEc.out▸HF.out) HOC.out.holds (HH1.out.below HR6.out))
 rw[show agg [D.row ct0 4 (.slice ca0 cl0 cc0) cd0,D.str cs1,D.bool cx2,D.row ct3 1 (.slice ca3 cl3 cc3) cd3,D.row ct4 1 (.slice ca4 cl4 cc4) cd4,D.row ct5 5 (.slice ca5 cl5 cc5) cd5]=Value.agg #[.slice ca0 cl0 cc0,Value.string cs1,Value.bool cx2,.slice ca3 cl3 cc3,.slice ca4 cl4 cc4,.slice ca5 cl5 cc5] from rfl,show agg [D.row at0 4 (.slice aa0 al0 ac0) ad0,D.str as1,D.bool ax2,D.row at3 1 (.slice aa3 al3 ac3) ad3,D.row at4 1 (.slice aa4 al4 ac4) ad4,D.row at5 5 (.slice aa5 al5 ac5) ad5]=Value.agg #[.slice aa0 al0 ac0,Value.string as1,Value.bool ax2,.slice aa3 al3 ac3,.slice aa4 al4 ac4,.slice aa5 al5 ac5] from rfl] at KE
 refine KE.out.mono ?_;rintro e w7 ⟨rfl,hb⟩;clear KE HOC;have HG7:=zH (HG6.out.step hb);have HO7:=zH (HO6.out.below hb);have HR7:=zH (HR6.out.trans (hb.mono HR6.out.size));clear hb HG6 HO6 HR6;have hKH:=zu8 z1.heap.size 1 w7 [D.row bt0 4 (.slice ba0 bl0 bc0) bd0,D.str bs1,D.bool bx2,D.row bt3 1 (.slice ba3 bl3 bc3) bd3,D.row bt4 1 (.slice ba4 bl4 bc4) bd4,D.row bt5 5 (.slice ba5 bl5 bc5) bd5] (HEb.out▸HF.out) HO7.out (by omega) (by have:=HCB.out;omega)
 rw[<-HMM.out,show ((1:Nat):Int)=1 from rfl,show agg [D.row bt0 4 (.slice ba0 bl0 bc0) bd0,D.str bs1,D.bool bx2,D.row bt3 1 (.slice ba3 bl3 bc3) bd3,D.row bt4 1 (.slice ba4 bl4 bc4) bd4,D.row bt5 5 (.slice ba5 bl5 bc5) bd5]=Value.agg #[.slice ba0 bl0 bc0,Value.string bs1,Value.bool bx2,.slice ba3 bl3 bc3,.slice ba4 bl4 bc4,.slice ba5 bl5 bc5] from rfl] at hKH
 have KH:=zH hKH;clear hKH;have q0:=HG7.out.at 0 (D.row bt0 4 (.slice ba0 bl0 bc0) bd0) rfl;simp only[val] at q0;have q1:=HG7.out.at 1 (D.str bs1) rfl;simp only[val] at q1;have q2:=HG7.out.at 2 (D.bool bx2) rfl;simp only[val] at q2;have q3:=HG7.out.at 3 (D.row bt3 1 (.slice ba3 bl3 bc3) bd3) rfl;simp only[val] at q3;have q4:=HG7.out.at 4 (D.row bt4 1 (.slice ba4 bl4 bc4) bd4) rfl;simp only[val] at q4
 have q5:=HG7.out.at 5 (D.row bt5 5 (.slice ba5 bl5 bc5) bd5) rfl;simp only[val] at q5;have qlt:=HG7.out.1;go_wp2_with fail
 refine KH.out.mono ?_;rintro e w8 ⟨rfl,hb⟩;clear KH q0 q1 q2 q3 q4 q5 qlt;have HR8:=zH (HR7.out.trans (hb.mono HR7.out.size));clear hb HG7 HO7 HR7;go_wp2_with fail
 go_ret;exact ⟨rfl,HB1.out.trans (HR8.out.mono HB1.out.size)⟩
end fnExactParseUnitW
namespace Data
open Strs Tree
theorem ztk (ms:List M):zba (za8 ms)<=2*ms.length+3*weights (za8 ms):=by
 induction ms with
 | nil=>simp[za8,zba]
 | cons m ms ih=>have h1:=zw9 m;rw[za8,zaz,zbb,List.length_cons];omega
theorem zvn (c:C):zba (zcx c)<=2+3*weights (zcx c):=by have h:=ztk c.methods;rw[zgt];simp only[zcx,zba,cnt,zzk];rw[zg7];omega
theorem zva (cs:List C):zba (zbj cs)<=2*cs.length+3*weights (zbj cs):=by
 induction cs with
 | nil=>simp[zbj,zba]
 | cons m ms ih=>have h1:=zvn m;rw[zbj,zaz,zbb,List.length_cons];omega
theorem zua (u:U):zdt (zde u)<=3*weights (zde u):=by
 have h1:=zva u.classes;have h2:=zi7 u.main;rw[zgp];show zox (.row 4 (zbj u.classes))+zdt (zbc u.main)<=_
 rw[zox];omega
end Data
namespace fnExactParseUnitW
open Go.RowKit
open Strs Tree zbv SpecParse
theorem zry (s:ByteArray):Data.zdt (Data.zde ((zee s).getD zvx))<=4611686018427387800:=by
 have h1:Data.weights (Data.zde ((zee s).getD zvx))<=4900:=by
  cases ha:zee s with
  | none=>exact (by decide +kernel:Data.weights (Data.zde zvx)<=4900)
  | some u=>
   unfold zee at ha
   split at ha
   ·cases ha
   ·rename_i u' hu
    split at ha
    ·cases ha
     exact zgk hu
    ·cases ha
 have h2:=Data.zua ((zee s).getD zvx);omega
theorem walk (s:ByteArray) (hm:s.size<=maxLen) (w:World) {a:Addr} (hM:Errs.z1q a w):
  Calls Tryz.prog 6 #[.string s] w fun e w'=>e=.returned (.bool true)/\Below w.heap.size w w':=
 zxt s hm w hM (Data.zde ((zee s).getD zvx)) (zee s).isSome (Data.zq0 _) (zry s)
  (fun hs w' _=>zsf s w' hs) (fun _ w' h=>ParI.ydf s w' h.1 h.2)
end fnExactParseUnitW
end Go.Proofs.YtlmhgeanknhcfaaGreatDoor
