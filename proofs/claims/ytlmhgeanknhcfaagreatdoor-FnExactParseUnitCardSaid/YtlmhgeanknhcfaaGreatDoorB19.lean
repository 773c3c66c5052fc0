/-
  SpecMeth DataSemi SpecUnit MethMath
-/
import Derived.Test.YtlmhgeanknhcfaaGreatDoorB14
import Derived.Test.YtlmhgeanknhcfaaGreatDoorB35
set_option maxHeartbeats 8000000
set_option maxRecDepth 10000
namespace Go.Proofs.YtlmhgeanknhcfaaGreatDoor
namespace Data
open Go.RowKit Go.Sort
open Strs Tree
theorem zqi (a b:M) (h:zbc a=zbc b):a=b:=by obtain ⟨a1,a2,a3,a4,a5⟩:=a;obtain ⟨b1,b2,b3,b4,b5⟩:=b;simp only[zbc,List.cons.injEq,P.str.injEq,P.bool.injEq,P.row.injEq,true_and,and_true] at h;obtain ⟨rfl,rfl,h3,h4,h5⟩:=h;rw[zm9 _ _ h3,zm9 _ _ h4,zwa _ _ h5]
theorem zj1 (m:M):zdc (env 3) (zbc m):=
 zdc.cons _ _ _ _ (Fit.str _) (zdc.cons _ _ _ _ (Fit.bool _) (zdc.cons _ _ _ _ (Fit.row _ _ _ rfl (zl0 _)) (zdc.cons _ _ _ _ (Fit.row _ _ _ rfl (zl0 _)) (zdc.cons _ _ _ _ (Fit.row _ _ _ rfl (zv4 _)) zdc.nil))))
theorem zh1 {ds:List D} {m:M} (h:zaa ds=zbc m):∃ (t2 t3 t4:Nat) (v2 v3 v4:Value) (d4:List D),ds=[.str m.sel,.bool m.cls,.row t2 1 v2 (strs m.params),.row t3 1 v3 (strs m.temps),.row t4 5 v4 d4]/\zaa d4=zay m.body:=by obtain ⟨m',t2,t3,t4,v2,v3,v4,d4,rfl,h4,h5⟩:=zze (ds:=ds) (h▸zj1 m);have:=zqi m' m (h5.symm.trans h);subst this;exact ⟨t2,t3,t4,v2,v3,v4,d4,rfl,h4⟩
structure MAt (lo:Nat) (w:World) (m:M) (v2 v3 v4:Value):Prop where
 sel:m.sel.size<=maxLen
 params:zbv lo w m.params v2
 temps:zbv lo w m.temps v3
 body:zdh lo w m.body v4
 fparams:zfc v2 m.params.length
 ftemps:zfc v3 m.temps.length
theorem MAt.below {lo:Nat} {w w':World} {m:M} {v2 v3 v4:Value} (h:MAt lo w m v2 v3 v4) (hb:Below w.heap.size w w'):MAt lo w' m v2 v3 v4:=⟨h.sel,h.params.below hb,h.temps.below hb,h.body.below hb,h.fparams,h.ftemps⟩
theorem z4j {lo:Nat} {w:World} {ds:List D} {m:M} (h:zaa ds=zbc m) (hh:zat lo w ds) (hs:zk5 ds):∃ v2 v3 v4,agg ds=.agg #[.string m.sel,.bool m.cls,v2,v3,v4]/\MAt lo w m v2 v3 v4:=by
 obtain ⟨t2,t3,t4,v2,v3,v4,d4,rfl,h4⟩:=zh1 h;simp only[zat,and_true] at hh;obtain ⟨g0,g1,g2,g3,g4⟩:=hh;rw[zkv] at hs;have s0:m.sel.size<=maxLen:=by simpa only[Holds] using g0
 exact ⟨v2,v3,v4,rfl,s0,zdp g2,zdp g3,z3a h4 g4,zq3 (hs (.row t2 1 v2 (strs m.params)) (by simp)) (by decide) (by rw[zeb,Nat.mul_one]),zq3 (hs (.row t3 1 v3 (strs m.temps)) (by simp)) (by decide) (by rw[zeb,Nat.mul_one])⟩
def zp2 (m:M) (v2 v3 v4:Value):List D:=[.str m.sel,.bool m.cls,.row 0 1 v2 [],.row 0 1 v3 [],.row 0 5 v4 []]
theorem zev {w w':World} (h:∃ p:Regrown,w'=Sort.grow (redrawn w p.d) p.os):Below w.heap.size w w':=by obtain ⟨p,rfl⟩:=h;exact below_regrown _ _ _
theorem zlb {lo:Nat} {w:World} {m:M} {v2 v3 v4:Value} (h:MAt lo w m v2 v3 v4) (hl:m.params.length+m.temps.length<=4398046511104):
  Calls Tryz.prog 41 #[.agg #[.string m.sel,.bool m.cls,v2,v3,v4]] w fun r w'=>∃ vn vk,r=.returned (.agg #[.int .i64 8,.string ⟨#[]⟩,.int .i64 (m.params.length:Int),vn,vk])/\zaw 0 w' (zcs m) vn vk/\Below w.heap.size w w':=by
 have hb0:Below w.heap.size w ((w.alloc (.cells #[.string m.sel,.bool m.cls,v2,v3,v4] 41)).alloc (.cells #[.int .i64 0,.string ⟨#[]⟩,.int .i64 0,.slice none 0 0,.slice none 0 0] 25)):=((zB _ _).alloc (zL _) _).alloc (by simp) _;have h0:=h.below hb0;have K:=zH (z10 h0.params h0.fparams h0.temps h0.ftemps h0.body hl)
 have hz:Cells (w.heap.size+1) zzv ((w.alloc (.cells #[.string m.sel,.bool m.cls,v2,v3,v4] 41)).alloc (.cells #[.int .i64 0,.string ⟨#[]⟩,.int .i64 0,.slice none 0 0,.slice none 0 0] 25)):=by
  have:=zae (w.alloc (.cells #[.string m.sel,.bool m.cls,v2,v3,v4] 41)) zzv 25;rw[show (w.alloc (.cells #[.string m.sel,.bool m.cls,v2,v3,v4] 41)).heap.size=w.heap.size+1 by simp] at this
  exact this
 have hfz:∀ o,((w.alloc (.cells #[.string m.sel,.bool m.cls,v2,v3,v4] 41)).alloc (.cells #[.int .i64 0,.string ⟨#[]⟩,.int .i64 0,.slice none 0 0,.slice none 0 0] 25)).frozen? ⟨w.heap.size+1,o,none⟩=false:=fun o=>by go_simp
 have hsz:((w.alloc (.cells #[.string m.sel,.bool m.cls,v2,v3,v4] 41)).alloc (.cells #[.int .i64 0,.string ⟨#[]⟩,.int .i64 0,.slice none 0 0,.slice none 0 0] 25)).heap.size=w.heap.size+2:=by simp
 have HZ:=zH hz;have HF:=zH hfz;have HB0:=zH hb0;have HM:=zH h;have HSZ:=zH hsz;obtain ⟨ka,kc,hk4,-⟩:=id h.body;have HK4:=zH hk4;clear h h0 hz hfz hb0 hl hsz hk4;go_enter Tryz.func41,Tryz.ntmps41;go_wp2_with fail
 refine K.out.mono ?_;rintro e w1 ⟨ra,rc,rfl,ht,hb1⟩;rw[HSZ.out] at ht;have HB1:=zH (HB0.out.trans (hb1.mono HB0.out.size));have hz1:=HZ.out.step hb1;have fz:∀ o,w1.frozen? ⟨w.heap.size+1,o,none⟩=false:=fun o=>(hb1.frozen (p:=⟨w.heap.size+1,o,none⟩) (show w.heap.size+1<_ from HZ.out.1)).trans (HF.out o)
 have z0:=hz1.at 0 (.int 0) rfl;have z1:=hz1.at 1 (.str ⟨#[]⟩) rfl;have z2:=hz1.at 2 (.int 0) rfl;have z3:=hz1.at 3 (.row 0 1 (.slice none 0 0) []) rfl;have z4:=hz1.at 4 (.row 0 5 (.slice none 0 0) []) rfl;simp only[val] at z0 z1 z2 z3 z4;have HT:=zH ht;have hk4:=HK4.out;subst hk4;clear hb1 hz1 K HB0 HZ HF HSZ HK4 ht;go_wp2_with fail
 have hbf:=zbl (show w.heap.size<=w.heap.size+1 by omega) [.int .i64 8,.string ⟨#[]⟩,.int .i64 m.params.length,.slice ra (m.params.length+m.temps.length) rc,.slice ka m.body.length kc] w w1 0 HB1.out
 have hkp:Tree.Kept (w.heap.size+2) w1 (puts w1 (w.heap.size+1) 0 [.int .i64 8,.string ⟨#[]⟩,.int .i64 m.params.length,.slice ra (m.params.length+m.temps.length) rc,.slice ka m.body.length kc]):=by
  have l2:w.heap.size+1<w.heap.size+2:=by omega
  exact ((((Tree.zci _ _ _ l2).trans (Tree.zci _ _ _ l2)).trans (Tree.zci _ _ _ l2)).trans (Tree.zci _ _ _ l2)).trans (Tree.zci _ _ _ l2)
 refine bodyPost_ret (v:=.agg #[.int .i64 8,.string ⟨#[]⟩,.int .i64 m.params.length,.slice ra (m.params.length+m.temps.length) rc,.slice ka m.body.length kc]) (by simp[results,Tryz.results41,go_sem, *]) rfl ⟨_,_,rfl,zbn.2 ⟨by rfl,?_,Nat.zero_le _,?_,?_⟩,hbf⟩
 ·show (Lit.int .i64 (m.params.length:Int)).wf=true
  obtain ⟨_,_,_,hm2,_⟩:=HM.out.params;unfold maxLen at hm2
  go_wf
 ·exact HT.out.keep (Nat.zero_le _) hkp
 ·exact (HM.out.body.keep (Nat.zero_le _) (fun _ _ _ _ h=>h)).below hbf
def zpq (m:M):Bool:=Tok.sel m.sel&&decide (Tok.zar m.sel=(m.params.length:Int))&&zdm (zcs m)
def zbi (m:M):Bool:=zpq m&&!Tok.has Tok.words m.sel
theorem ze0 (m:M):Tree.weight (zcs m)=(m.params++m.temps).length+lens (m.params++m.temps)+(m.body.length+Tree.weights m.body):=by unfold zcs;rw[Tree.weight];have:ByteArray.empty.size=0:=rfl;omega
theorem z07 {lo:Nat} {w:World} {m:M} {v2 v3 v4:Value} (h:MAt lo w m v2 v3 v4) (hw:m.sel.size+Tree.weight (zcs m)<=1048576):
  Calls Tryz.prog 91 #[.agg #[.string m.sel,.bool m.cls,v2,v3,v4]] w fun r w'=>r=.returned (.bool (zpq m))/\Below w.heap.size w w':=by
 have hlen:m.params.length+m.temps.length<=1048576:=by have h1:=ze0 m;rw[List.length_append] at h1;omega
 have hs:m.sel.size<=1048576:=by omega
 have KB:=fun w' (hb:Below w.heap.size w w')=>zH (zlb (h.below hb) (by omega))
 have KS:=fun w'=>zH (SpecSel.zi8 m.sel w' hs)
 have KC:=fun w'=>zH (SpecSel.zf4 m.sel w' hs)
 have KE:=fun w' vn vk (hn:zaw 0 w' (zcs m) vn vk)=>zH (SpecRight.zml (lo:=0) (e:=zcs m) (w:=w') ⟨vn,vk,rfl,hn⟩ (by omega))
 have hform:(zcs m).kind=8/\(zcs m).text=⟨#[]⟩/\(zcs m).num=(m.params.length:Int):=⟨rfl,rfl,rfl⟩;obtain ⟨pa,pc,hp2,-⟩:=id h.params;have hz:Cells w.heap.size (zp2 m v2 v3 v4) (w.alloc (.cells #[.string m.sel,.bool m.cls,v2,v3,v4] 41)):=zae w (zp2 m v2 v3 v4) _;have hb0:Below w.heap.size w (w.alloc (.cells #[.string m.sel,.bool m.cls,v2,v3,v4] 41)):=(zB _ _).alloc (zL _) _
 have HZ:=zH hz;have HB0:=zH hb0;have HV:Hid (zpq m=(Tok.sel m.sel&&decide (Tok.zar m.sel=(m.params.length:Int))&&zdm (zcs m))):=zH rfl;simp only[hform] at KE;generalize zpq m=R at *;generalize zcs m=B at *;clear hform hw h hz hb0;subst hp2;generalize m.params.length=np at *;generalize Tok.sel m.sel=S at *;generalize Tok.zar m.sel=Cn at *;generalize zdm B=X at *
 go_enter Tryz.func91,Tryz.ntmps91;go_wp2_with fail
 refine (KB _ HB0.out).out.mono ?_;rintro e w1 ⟨vn,vk,rfl,hn,hb1⟩;obtain ⟨-,-,-,⟨na,nc,hvn,-⟩,⟨ka,kc,hvk,-⟩⟩:=zbn.1 hn;generalize B.names.length=nl at *;generalize B.kids.length=kl at *;subst hvn hvk;go_wp2_with fail
 have hbx:Below w1.heap.size w1 (w1.alloc (.cells #[.int .i64 8,.string ⟨#[]⟩,.int .i64 (np:Int),.slice na nl nc,.slice ka kl kc] 25)):=(zB _ _).alloc (zL _) _;have HB2:=zH ((HB0.out.trans (hb1.mono HB0.out.size)).trans (hbx.mono (HB0.out.trans (hb1.mono HB0.out.size)).size));have hm2:=(HZ.out.step hb1).step hbx;have hx2:Cells w1.heap.size [.int 8,.str ⟨#[]⟩,.int (np:Int),.row 0 1 (.slice na nl nc) [],.row 0 5 (.slice ka kl kc) []] (w1.alloc (.cells #[.int .i64 8,.string ⟨#[]⟩,.int .i64 (np:Int),.slice na nl nc,.slice ka kl kc] 25)):=zae w1 [.int 8,.str ⟨#[]⟩,.int (np:Int),.row 0 1 (.slice na nl nc) [],.row 0 5 (.slice ka kl kc) []] 25
 have hn2:=hn.below hbx;have KX:=fun d os=>KE (grow (redrawn (w1.alloc (.cells #[.int .i64 8,.string ⟨#[]⟩,.int .i64 (np:Int),.slice na nl nc,.slice ka kl kc] 25)) d) os) (.slice na nl nc) (.slice ka kl kc) (hn2.below (below_regrown _ d os))
 have KX2:=fun d os=>zH (Calls.regrown_of (KX d os).out)
 have KS2:=fun d os=>zH (Calls.regrown_of (KS (grow (redrawn (w1.alloc (.cells #[.int .i64 8,.string ⟨#[]⟩,.int .i64 (np:Int),.slice na nl nc,.slice ka kl kc] 25)) d) os)).out)
 have KC2:=fun d os=>zH (Calls.regrown_of (KC (grow (redrawn (w1.alloc (.cells #[.int .i64 8,.string ⟨#[]⟩,.int .i64 (np:Int),.slice na nl nc,.slice ka kl kc] 25)) d) os)).out)
 have ke0:=cell_regrown (hm2.at 0 (.str m.sel) rfl);have ke2:=cell_regrown (hm2.at 2 (.row 0 1 (.slice pa np pc) []) rfl);have kx0:=cell_regrown (hx2.at 0 (.int 8) rfl);have kx1:=cell_regrown (hx2.at 1 (.str ⟨#[]⟩) rfl);have kx2:=cell_regrown (hx2.at 2 (.int (np:Int)) rfl);have kx3:=cell_regrown (hx2.at 3 (.row 0 1 (.slice na nl nc) []) rfl);have kx4:=cell_regrown (hx2.at 4 (.row 0 5 (.slice ka kl kc) []) rfl)
 simp only[val] at ke0 ke2 kx0 kx1 kx2 kx3 kx4;clear KB KS KC KE KX hn hn2 hb1 hbx hm2 hx2 HB0 HZ;generalize w1.heap.size=g at *;generalize w1.alloc (.cells #[.int .i64 8,.string ⟨#[]⟩,.int .i64 (np:Int),.slice na nl nc,.slice ka kl kc] 25)=W at *;cases S with
 | false=>
  have hR:R=false:=HV.out;subst hR;clear HV;refine wp_region_quiet_below (by kernel_rfl) (by kernel_rfl) ?_
  repeat (go_big_quiet_step ((go_at_call 134;exact (KS2 _ _).out)))
  refine wpQuiet_nil ?_;intro w2 hw2;have hb2:=zH (HB2.out.trans ((zev hw2).mono HB2.out.size));clear hw2 ke0 ke2 kx0 kx1 kx2 kx3 kx4 KS2 KC2 KX2;go_wp2_with fail
  go_ret;exact ⟨rfl,hb2.out⟩
 | true=>
  by_cases hc:Cn=(np:Int)
  case neg=>
   have hcb:(Cn==(np:Int))=false:=by rw[beq_eq_false_iff_ne];exact hc
   have hR:R=false:=by rw[HV.out,decide_eq_false hc];rfl
   subst hR;clear HV hc;refine wp_region_quiet_below (by kernel_rfl) (by kernel_rfl) ?_
   repeat (go_big_quiet_step (first|(go_at_call 134;exact (KS2 _ _).out)|(go_at_call 135;exact (KC2 _ _).out)))
   refine wpQuiet_nil ?_;intro w2 hw2;have hb2:=zH (HB2.out.trans ((zev hw2).mono HB2.out.size));clear hw2 ke0 ke2 kx0 kx1 kx2 kx3 kx4 KS2 KC2 KX2;go_wp2_with fail
   go_ret;exact ⟨rfl,hb2.out⟩
  have hcb:(Cn==(np:Int))=true:=by rw[beq_iff_eq];exact hc
  have hR:R=X:=by rw[HV.out,decide_eq_true hc];rfl
  subst hR;clear HV hc;refine wp_region_quiet_below (by kernel_rfl) (by kernel_rfl) ?_
  repeat (go_big_quiet_step (first|(go_at_call 134;exact (KS2 _ _).out)|(go_at_call 135;exact (KC2 _ _).out)|(go_at_call 28;exact (KX2 _ _).out)))
  refine wpQuiet_nil ?_;intro w2 hw2;have hb2:=zH (HB2.out.trans ((zev hw2).mono HB2.out.size));clear hw2 ke0 ke2 kx0 kx1 kx2 kx3 kx4 KS2 KC2 KX2;go_wp2_with fail
  go_ret;exact ⟨rfl,hb2.out⟩
theorem z1w {lo:Nat} {w:World} {m:M} {v2 v3 v4:Value} (h:MAt lo w m v2 v3 v4) (hw:m.sel.size+Tree.weight (zcs m)<=1048576):
  Calls Tryz.prog 43 #[.agg #[.string m.sel,.bool m.cls,v2,v3,v4]] w fun r w'=>r=.returned (.bool (zbi m))/\Below w.heap.size w w':=by
 have hb0:Below w.heap.size w (w.alloc (.cells #[.string m.sel,.bool m.cls,v2,v3,v4] 41)):=(zB _ _).alloc (zL _) _;have KR:=fun w' (hb:Below w.heap.size w w')=>zH (z07 (h.below hb) hw)
 have KH:=fun v w' h=>zH (SpecTok.zwe v Tok.words m.sel w' h)
 have hz:Cells w.heap.size (zp2 m v2 v3 v4) (w.alloc (.cells #[.string m.sel,.bool m.cls,v2,v3,v4] 41)):=zae w (zp2 m v2 v3 v4) _;have HB0:=zH hb0;have HV:Hid (zbi m=(zpq m&&!Tok.has Tok.words m.sel)):=zH rfl;have e0:=hz.at 0 (.str m.sel) rfl;have e1:=hz.at 1 (.bool m.cls) rfl;have e2:=hz.at 2 (.row 0 1 v2 []) rfl;have e3:=hz.at 3 (.row 0 1 v3 []) rfl;have e4:=hz.at 4 (.row 0 5 v4 []) rfl
 simp only[val] at e0 e1 e2 e3 e4;generalize zbi m=R at *;generalize zpq m=X at *;generalize Tok.has Tok.words m.sel=Y at *;clear hw h hz;cases X with
 | false=>
  have hR:R=false:=HV.out;subst hR;have k0:=cell_regrown e0;have k1:=cell_regrown e1;have k2:=cell_regrown e2;have k3:=cell_regrown e3;have k4:=cell_regrown e4;have KR2:=fun d os=>zH (Calls.regrown_of (KR (grow (redrawn (w.alloc (.cells #[.string m.sel,.bool m.cls,v2,v3,v4] 41)) d) os) (hb0.trans ((below_regrown _ d os).mono hb0.size))).out)
  clear HV KR KH e0 e1 e2 e3 e4 hb0;go_enter Tryz.func43,Tryz.ntmps43;go_wp2_with fail
  refine wp_region_quiet_below (by kernel_rfl) (by kernel_rfl) ?_
  repeat (go_big_quiet_step ((go_at_call 91;exact (KR2 _ _).out)))
  refine wpQuiet_nil ?_;intro w2 hw2;have hb2:=zH (HB0.out.trans ((zev hw2).mono HB0.out.size));clear hw2 k0 k1 k2 k3 k4 KR2;go_wp2_with fail
  go_ret;exact ⟨rfl,hb2.out⟩
 | true=>
  have hR:R=!Y:=HV.out;have HR:=zH hR;clear HV hR hb0;go_enter Tryz.func43,Tryz.ntmps43;go_wp2_with fail
  go_region_held3 (fun w'=>w'.cell? ⟨w.heap.size,0,none⟩=some (.string m.sel)/\w'.cell? ⟨w.heap.size,1,none⟩=some (.bool m.cls)/\w'.cell? ⟨w.heap.size,2,none⟩=some v2/\w'.cell? ⟨w.heap.size,3,none⟩=some v3/\w'.cell? ⟨w.heap.size,4,none⟩=some v4)
   (first|exact ⟨e0,e1,e2,e3,e4⟩|exact ⟨cell_keep hb6 (cell_keep hb5 (show (w.alloc (.cells #[.string m.sel,.bool m.cls,v2,v3,v4] 41)).drew.cell? _=_ from e0)),cell_keep hb6 (cell_keep hb5 (show (w.alloc (.cells #[.string m.sel,.bool m.cls,v2,v3,v4] 41)).drew.cell? _=_ from e1)),cell_keep hb6 (cell_keep hb5 (show (w.alloc (.cells #[.string m.sel,.bool m.cls,v2,v3,v4] 41)).drew.cell? _=_ from e2)),cell_keep hb6 (cell_keep hb5 (show (w.alloc (.cells #[.string m.sel,.bool m.cls,v2,v3,v4] 41)).drew.cell? _=_ from e3)),cell_keep hb6 (cell_keep hb5 (show (w.alloc (.cells #[.string m.sel,.bool m.cls,v2,v3,v4] 41)).drew.cell? _=_ from e4))⟩|exact ⟨cell_keep hb5 (show (w.alloc (.cells #[.string m.sel,.bool m.cls,v2,v3,v4] 41)).drew.cell? _=_ from e0),cell_keep hb5 (show (w.alloc (.cells #[.string m.sel,.bool m.cls,v2,v3,v4] 41)).drew.cell? _=_ from e1),cell_keep hb5 (show (w.alloc (.cells #[.string m.sel,.bool m.cls,v2,v3,v4] 41)).drew.cell? _=_ from e2),cell_keep hb5 (show (w.alloc (.cells #[.string m.sel,.bool m.cls,v2,v3,v4] 41)).drew.cell? _=_ from e3),cell_keep hb5 (show (w.alloc (.cells #[.string m.sel,.bool m.cls,v2,v3,v4] 41)).drew.cell? _=_ from e4)⟩|go_keep)
   (first
    | (go_at_call 91;refine (KR _ HB0.out.drew).out.mono ?_;rintro e w5 ⟨rfl,hb5⟩)
    | (go_at_call 90;refine (SpecTok.zhu _).mono ?_;rintro e w6 ⟨la,lc,rfl,hat,hb6⟩)
    | (go_at_call 89;refine (KH _ _ hat).out.mono ?_;rintro e w7 ⟨rfl,rfl⟩))
  all_goals
   have hb7:=zH ((HB0.out.drew.trans (hb5.mono HB0.out.size)).trans (hb6.mono (HB0.out.drew.trans (hb5.mono HB0.out.size)).size));clear e0 e1 e2 e3 e4 hat hb5 hb6 KR KH;go_wp2_with fail
   go_ret;exact ⟨by rw[HR.out];rfl,hb7.out⟩
end Data
end Go.Proofs.YtlmhgeanknhcfaaGreatDoor
namespace Go.Proofs.YtlmhgeanknhcfaaGreatDoor.Data
open Go.RowKit
open Strs Tree
mutual
def zzq:D->Prop
 | .int _=>True
 | .str _=>True
 | .bool _=>True
 | .row _ k v ds=>(k=1->zfc v ds.length)/\((∃ n ds',ds=.int n::ds')\/zds ds)
def zds:List D->Prop
 | []=>True
 | d::ds=>zzq d/\zds ds
end
theorem zgz {ds:List D}:zds ds↔∀ d,d∈ds->zzq d:=by
 induction ds with
 | nil=>simp[zds]
 | cons t ts ih=>rw[zds,ih];simp
theorem zds.append {a b:List D}:zds (a++b)↔zds a/\zds b:=by
 rw[zgz,zgz,zgz];constructor
 ·intro h
  exact ⟨fun d hd=>h d (by simp[hd]),fun d hd=>h d (by simp[hd])⟩
 ·rintro ⟨h1,h2⟩ d hd
  rcases List.mem_append.1 hd with h|h
  ·exact h1 d h
  ·exact h2 d h
theorem zmv {t:Nat} {v:Value} {xs:List ByteArray} (h:zzq (.row t 1 v (strs xs))):zfc v xs.length:=by
 rw[zzq] at h;have:=h.1 rfl
 rwa [zeb] at this
theorem zt9 {t k:Nat} {v:Value} {ds:List D} {ms:List M} (h:zzq (.row t k v ds)) (he:zaa ds=za8 ms):zds ds:=by
 rw[zzq] at h;rcases h.2 with ⟨n,ds',rfl⟩|h2
 ·rw[zha,erase] at he
  cases ms with
  | nil=>cases he
  | cons m ms=>rw[za8,zbc] at he;cases he
 ·exact h2
theorem zum {t k:Nat} {v:Value} {ds:List D} {cs:List C} (h:zzq (.row t k v ds)) (he:zaa ds=zbj cs):zds ds:=by
 rw[zzq] at h;rcases h.2 with ⟨n,ds',rfl⟩|h2
 ·rw[zha,erase] at he
  cases cs with
  | nil=>cases he
  | cons m ms=>rw[zbj,zcx] at he;cases he
 ·exact h2
theorem zyc {lo:Nat} {w:World} {ds:List D} {m:M} (h:zaa ds=zbc m) (hh:zat lo w ds) (hs:zds ds):∃ v2 v3 v4,agg ds=.agg #[.string m.sel,.bool m.cls,v2,v3,v4]/\MAt lo w m v2 v3 v4:=by
 obtain ⟨t2,t3,t4,v2,v3,v4,d4,rfl,h4⟩:=zh1 h;simp only[zat,and_true] at hh;obtain ⟨g0,g1,g2,g3,g4⟩:=hh;rw[zgz] at hs;have s0:m.sel.size<=maxLen:=by simpa only[Holds] using g0
 exact ⟨v2,v3,v4,rfl,s0,zdp g2,zdp g3,z3a h4 g4,zmv (hs (.row t2 1 v2 (strs m.params)) (by simp)),zmv (hs (.row t3 1 v3 (strs m.temps)) (by simp))⟩
end Go.Proofs.YtlmhgeanknhcfaaGreatDoor.Data
namespace Go.Proofs.YtlmhgeanknhcfaaGreatDoor
namespace Data
open Go.RowKit Go.Sort
open Strs Tree
theorem zq5 (c:C) (h:za7 3 (za8 c.methods)):zdc (env 4) (zcx c):=
 zdc.cons _ _ _ _ (Fit.str _) (zdc.cons _ _ _ _ (Fit.str _) (zdc.cons _ _ _ _ (Fit.row _ _ _ rfl (zl0 _)) (zdc.cons _ _ _ _ (Fit.row _ _ _ rfl h) zdc.nil)))
theorem zoh (ms:List M):za7 3 (za8 ms):=by
 induction ms with
 | nil=>exact za7.nil 3
 | cons m ms ih=>rw[za8];exact za7.cons 3 _ _ _ rfl (zj1 m) ih
theorem zxz (cs:List C):za7 4 (zbj cs):=by
 induction cs with
 | nil=>exact za7.nil 4
 | cons c cs ih=>rw[zbj];exact za7.cons 4 _ _ _ rfl (zq5 c (zoh _)) ih
theorem zq0 (u:U):zdc (env 5) (zde u):=zdc.cons _ _ _ _ (Fit.row _ _ _ rfl (zxz _)) (zj1 _)
theorem zj7 (m:M):(zbc m).length=5:=rfl
theorem zrb (c:C):(zcx c).length=4:=rfl
theorem zzo:∀ (ms:List M) (ds:List D),zaa ds=za8 ms->∀ i (h:i<ms.length),∃ A x B,ds=A++(x++B)/\A.length=i*5/\zaa x=zbc ms[i]:=by
 intro ms
 induction ms with
 | nil=>intro ds _ i h;simp at h
 | cons m ms ih=>
  intro ds h i hi;rw[za8] at h;obtain ⟨x,y,rfl,h1,h2⟩:=zek h;cases i with
  | zero=>exact ⟨[],x,y,rfl,by simp,h1⟩
  | succ i=>
   obtain ⟨A,x',B,rfl,h3,h4⟩:=ih y h2 i (by simpa using hi);refine ⟨x++A,x',B,by rw[List.append_assoc],?_,h4⟩
   have:x.length=5:=by have:=congrArg List.length h1;rw[za0,zj7] at this;exact this
   rw[List.length_append,this,h3,Nat.succ_mul];omega
theorem zqh:∀ (cs:List C) (ds:List D),zaa ds=zbj cs->∀ i (h:i<cs.length),∃ A x B,ds=A++(x++B)/\A.length=i*4/\zaa x=zcx cs[i]:=by
 intro cs
 induction cs with
 | nil=>intro ds _ i h;simp at h
 | cons m ms ih=>
  intro ds h i hi;rw[zbj] at h;obtain ⟨x,y,rfl,h1,h2⟩:=zek h;cases i with
  | zero=>exact ⟨[],x,y,rfl,by simp,h1⟩
  | succ i=>
   obtain ⟨A,x',B,rfl,h3,h4⟩:=ih y h2 i (by simpa using hi);refine ⟨x++A,x',B,by rw[List.append_assoc],?_,h4⟩
   have:x.length=4:=by have:=congrArg List.length h1;rw[za0,zrb] at this;exact this
   rw[List.length_append,this,h3,Nat.succ_mul];omega
theorem zxr:∀ (a b:List M),za8 a=za8 b->a=b:=by
 intro a
 induction a with
 | nil=>
  intro b h;cases b with
  | nil=>rfl
  | cons x xs=>have:=congrArg List.length h;rw[zei,zei] at this;simp at this
 | cons m ms ih=>
  intro b h;cases b with
  | nil=>have:=congrArg List.length h;rw[zei,zei] at this;simp at this
  | cons x xs=>rw[za8,za8] at h;have h1:=List.append_inj h (by rw[zj7,zj7]);rw[zqi _ _ h1.1,ih xs h1.2]
theorem zjz {ds:List D} {c:C} (h:zaa ds=zcx c):∃ (t2 t3:Nat) (v2 v3:Value) (d3:List D),ds=[.str c.name,.str c.parent,.row t2 1 v2 (strs c.fields),.row t3 5 v3 d3]/\zaa d3=za8 c.methods:=by obtain ⟨c',t2,t3,v2,v3,d3,rfl,h3,hf,h5⟩:=z5w (ds:=ds) (h▸zq5 c (zoh _));have e:=h5.symm.trans h;obtain ⟨a1,a2,a3,a4⟩:=c';obtain ⟨b1,b2,b3,b4⟩:=c;simp only[zcx,List.cons.injEq,P.str.injEq,P.row.injEq,true_and,and_true] at e;obtain ⟨rfl,rfl,e3,e4⟩:=e;obtain rfl:=zm9 _ _ e3;obtain rfl:=zxr _ _ e4;exact ⟨t2,t3,v2,v3,d3,rfl,h3⟩
def zin:ByteArray:=⟨#[109,97,105,110]⟩
def zc9 (c:C):Bool:=Tok.za3 c.name&&Tok.za3 c.parent&&decide (c.fields.length<=4)&&decide (c.methods.length<=12)&&c.fields.all Tok.za3&&c.methods.all zbi
def zf7 (u:U):Bool:=decide (u.classes.length<=8)&&decide (u.main.sel=zin)&&!u.main.cls&&decide (u.main.params.length=0)&&zdm (zcs u.main)&&u.classes.all zc9
theorem zo7 {ds:List D} {u:U} (h:zaa ds=zde u):∃ t0 v0 d0 ms,ds=.row t0 4 v0 d0::ms/\zaa d0=zbj u.classes/\zaa ms=zbc u.main:=by have hf:zdc (env 5) (zaa ds):=h▸zq0 u;obtain ⟨t0,v0,d0,e0,rfl,f0,h0⟩:=zak (k:=4) rfl hf;rw[zaa,erase,zde] at h;simp only[List.cons.injEq,P.row.injEq,true_and] at h;exact ⟨t0,v0,d0,e0,rfl,h.1,h.2⟩
structure St (w:World) (us:List D) (g:Nat) (cs:List D) (wr:World):Prop where
 below:Below w.heap.size w wr
 u:Cells w.heap.size us wr
 c:Cells g cs wr
theorem St.step {w wr w':World} {us cs:List D} {g:Nat} (h:St w us g cs wr) (hb:Below wr.heap.size wr w'):St w us g cs w':=⟨h.below.trans (hb.mono h.below.size),h.u.step hb,h.c.step hb⟩
theorem zki:∀ (ms:List M) (i:Nat) (h:i<ms.length),Data.weights (zbc ms[i])<=Data.weights (za8 ms):=by
 intro ms
 induction ms with
 | nil=>intro i h;simp at h
 | cons m ms ih=>
  intro i h;rw[za8,Data.zbb];cases i with
  | zero=>show Data.weights (zbc m)<=_;omega
  | succ i=>have:=ih i (by simpa using h);show Data.weights (zbc (ms[i]'(by simpa using h)))<=_;omega
theorem zkf:∀ (cs:List C) (i:Nat) (h:i<cs.length),Data.weights (zcx cs[i])<=Data.weights (zbj cs):=by
 intro ms
 induction ms with
 | nil=>intro i h;simp at h
 | cons m ms ih=>
  intro i h;rw[zbj,Data.zbb];cases i with
  | zero=>show Data.weights (zcx m)<=_;omega
  | succ i=>have:=ih i (by simpa using h);show Data.weights (zcx (ms[i]'(by simpa using h)))<=_;omega
theorem zgt (c:C):Data.weights (zcx c)=c.name.size+(c.parent.size+((c.fields.length+lens c.fields)+(c.methods.length+Data.weights (za8 c.methods)))):=by simp only[zcx,Data.weights,Data.weight,zzk];rw[List.length_map,zex,zei,Nat.mul_div_cancel _ (by decide),Nat.div_one];omega
theorem zgp (u:U):Data.weights (zde u)=(u.classes.length+Data.weights (zbj u.classes))+Data.weights (zbc u.main):=by rw[zde,Data.weights,Data.weight,zid,Nat.mul_div_cancel _ (by decide)]
theorem zmf {α:Type} (p:α->Bool) (l:List α) (i:Nat) (h:i<l.length) (h1:(l.take i).all p=true) (h2:p l[i]=true):(l.take (i+1)).all p=true:=by rw[List.take_succ_eq_append_getElem h,List.all_append,h1,Bool.true_and,List.all_cons,h2];rfl
theorem zus {α:Type} (p:α->Bool) (l:List α) (i:Nat) (h:i<l.length) (h2:p l[i]=false):l.all p=false:=by rw[<-Bool.not_eq_true,List.all_eq_true];intro e;have:=e l[i] (List.getElem_mem h);rw[h2] at this;cases this
theorem z7h {lo:Nat} {w:World} {u:U} {ds:List D} (he:zaa ds=zde u) (hh:zat lo w ds) (hs:zds ds) (hw:Data.weights (zaa ds)<=1048576):
  Calls Tryz.prog 13 #[agg ds] w fun r w'=>r=.returned (.bool (zf7 u))/\Below w.heap.size w w':=by
 rw[he,zgp,zc1] at hw;obtain ⟨t0,v0,d0,ms,rfl,h0,h1⟩:=zo7 he;rw[zat] at hh;rw[zds] at hs;obtain ⟨v2,v3,v4,hag,hm⟩:=zyc h1 hh.2 hs.2;have hg0:=hh.1;rw[Holds] at hg0;obtain ⟨⟨a0,n0,c0,rfl,-,hl0,hn0,hc0,hcell⟩,hcs⟩:=hg0;have hs0:=hs.1;have hsts:=zum hs0 h0;clear hs0 hs hh he;have hlen:=congrArg List.length h0;rw[za0,zid] at hlen;obtain rfl:n0=u.classes.length:=by omega
 have hagg:agg (.row t0 4 (.slice a0 u.classes.length c0) d0::ms)=.agg #[.slice a0 u.classes.length c0,.string u.main.sel,.bool u.main.cls,v2,v3,v4]:=by
  have e:vals ms=[.string u.main.sel,.bool u.main.cls,v2,v3,v4]:=by unfold agg at hag;have:=Value.agg.inj hag;exact congrArg Array.toList this
  show Value.agg (Value.slice a0 u.classes.length c0::vals ms).toArray=_
  rw[e]
 rw[hagg];obtain ⟨cs,m⟩:=u;simp only at *;clear hagg hag h1 hl0 hlen;obtain ⟨pa,pc,hp2,-⟩:=id hm.params;have HV:Hid (zf7 ⟨cs,m⟩=(decide (cs.length<=8)&&decide (m.sel=zin)&&!m.cls&&decide (m.params.length=0)&&zdm (zcs m)&&cs.all zc9)):=zH rfl;generalize zf7 ⟨cs,m⟩=R at *;subst hp2;have HM:=zH hm;clear hm;by_cases hn8:(cs.length:Int)<=8
 case neg=>
  have hR:R=false:=by rw[HV.out,decide_eq_false (by omega)];rfl
  subst hR;clear HV HM hcs hsts h0;go_enter Tryz.func13,Tryz.ntmps13;go_wp2_with fail
  go_ret;exact ⟨rfl,(zB _ _).alloc (zL _) _⟩
 by_cases hsel:m.sel=zin
 case neg=>
  have hR:R=false:=by rw[HV.out,decide_eq_false hsel];simp
  subst hR
  have hse:¬m.sel.toList=[109,97,105,110]:=fun e=>hsel (by apply ByteArray.ext;apply Array.ext';rw[<-ByteArray.toList_eq,e];rfl)
  clear HV HM hcs hsts h0 hsel;go_enter Tryz.func13,Tryz.ntmps13;go_wp2_with fail
  go_ret;exact ⟨rfl,(zB _ _).alloc (zL _) _⟩
 have hse:m.sel.toList=[109,97,105,110]:=by rw[hsel];rw[ByteArray.toList_eq];rfl
 have HSEL:=zH hsel;clear hsel;generalize hcls:m.cls=mc at *;have HCL:=zH hcls;clear hcls;cases mc with
 | true=>
  have hR:R=false:=by rw[HV.out];simp
  subst hR;clear HV HM hcs hsts h0;go_enter Tryz.func13,Tryz.ntmps13;go_wp2_with fail
  go_ret;exact ⟨rfl,(zB _ _).alloc (zL _) _⟩
 | false=>
 by_cases hnp:m.params.length=0
 case neg=>
  have hR:R=false:=by rw[HV.out,decide_eq_false hnp];simp
  subst hR;generalize m.params.length=np at *;clear HV HM hcs hsts h0;go_enter Tryz.func13,Tryz.ntmps13;go_wp2_with fail
  go_ret;exact ⟨rfl,(zB _ _).alloc (zL _) _⟩
 have hlm:m.params.length+m.temps.length<=4398046511104:=by have h1:=ze0 m;rw[List.length_append] at h1;omega
 have KB:∀ w',Below w.heap.size w w'->Hid (Calls Tryz.prog 41 #[.agg #[.string m.sel,.bool false,.slice pa 0 pc,v3,v4]] w' fun r w''=>∃ vn vk,r=.returned (.agg #[.int .i64 8,.string ⟨#[]⟩,.int .i64 0,vn,vk])/\zaw 0 w'' (zcs m) vn vk/\Below w'.heap.size w' w''):=fun w' hb=>zH (by have h:=zlb (HM.out.below hb) hlm;rw[HCL.out,hnp] at h;exact h)
 have KE:∀ w' vn vk,zaw 0 w' (zcs m) vn vk->Hid (Calls Tryz.prog 28 #[.agg #[.int .i64 8,.string ⟨#[]⟩,.int .i64 0,vn,vk]] w' fun r w''=>r=.returned (.bool (zdm (zcs m)))/\Below w'.heap.size w' w''):=fun w' vn vk hn=>zH (by
  have h:=SpecRight.zml (lo:=0) (e:=zcs m) (w:=w') ⟨vn,vk,rfl,hn⟩ (by omega);have e:(zcs m).num=0:=by show (m.params.length:Int)=0;rw[hnp];rfl
  rw[e] at h;exact h)
 have HVX:Hid (R=(zdm (zcs m)&&cs.all zc9)):=zH (by
  rw[HV.out,decide_eq_true (show cs.length<=8 by omega),decide_eq_true HSEL.out,decide_eq_true hnp]
  simp)
 rw[hnp];have HW:Hid (cs.length+Data.weights (zbj cs)<=1048576):=zH (by omega);clear HV HM HSEL HCL hnp hlm hw;generalize zdm (zcs m)=X at *;generalize zcs m=BE at *;have H0:=zH h0;have HCS:=zH hcs;have HST:=zH hsts;have HCELL:=zH hcell;clear h0 hcs hsts hcell;unfold maxLen at hc0;have hb0:Below w.heap.size w (w.alloc (.cells #[.slice a0 cs.length c0,.string m.sel,.bool false,.slice pa 0 pc,v3,v4] 43)):=(zB _ _).alloc (zL _) _
 have hu0:Cells w.heap.size [.row 0 4 (.slice a0 cs.length c0) [],.str m.sel,.bool false,.row 0 1 (.slice pa 0 pc) [],.row 0 1 v3 [],.row 0 5 v4 []] (w.alloc (.cells #[.slice a0 cs.length c0,.string m.sel,.bool false,.slice pa 0 pc,v3,v4] 43)):=zae w [.row 0 4 (.slice a0 cs.length c0) [],.str m.sel,.bool false,.row 0 1 (.slice pa 0 pc) [],.row 0 1 v3 [],.row 0 5 v4 []] _;have HB0:=zH hb0
 have HU0:=zH hu0;clear hb0 hu0;generalize hN:cs.length=N at *;have HN:=zH hN;clear hN;go_enter Tryz.func13,Tryz.ntmps13;go_wp2_with fail
 refine (KB _ HB0.out).out.mono ?_;rintro e w1 ⟨vn,vk,rfl,hn,hb1⟩;have KE2:=zH (KE w1 vn vk hn).out;have HB1:=zH (HB0.out.trans (hb1.mono HB0.out.size));have HU1:=zH (HU0.out.step hb1);clear hb1 hn KB KE HB0 HU0;go_wp2_with fail
 refine KE2.out.mono ?_;rintro e w2 ⟨rfl,hb2⟩;have HB2:=zH (HB1.out.trans (hb2.mono HB1.out.size));have HU2:=zH (HU1.out.step hb2);clear hb2 KE2 HB1 HU1;cases X with
 | false=>
  have hR:R=false:=by rw[HVX.out];rfl
  subst hR;clear HVX;go_wp2_with fail
  go_ret;exact ⟨rfl,HB2.out⟩
 | true=>
 have HVA:Hid (R=cs.all zc9):=zH (by rw[HVX.out];rfl);clear HVX;go_wp2_with fail
 go_loopw [3] (fun j wr=>∃ i:Nat,i<=N/\j=.int .i64 i/\(cs.take i).all zc9=true/\Below w.heap.size w wr/\Cells w.heap.size [.row 0 4 (.slice a0 N c0) [],.str m.sel,.bool false,.row 0 1 (.slice pa 0 pc) [],.row 0 1 v3 [],.row 0 5 v4 []] wr) (fun j _=>N-(intOf j).toNat)
 case atStart=>exact ⟨0,Nat.zero_le _,rfl,rfl,HB2.out,HU2.out⟩
 case round=>
  clear HB2 HU2;obtain ⟨i,hi,rfl,hall,hbw,hub⟩:=hrel;have HALL:=zH hall;have HBW:=zH hbw;have HUB:=zH hub;have u0:=hub.at 0 (.row 0 4 (.slice a0 N c0) []) rfl;simp only[val] at u0;clear hall hbw hub;by_cases hlt:i<N
  case neg=>
   have hiN:i=N:=by omega
   have hR:R=true:=by rw[HVA.out];have:=HALL.out;rw[hiN,<-HN.out,List.take_length] at this;exact this
   subst hR;clear hiN HVA;go_wp2_with fail
   go_ret;exact ⟨rfl,HBW.out⟩
  have hil:i<cs.length:=by rw[HN.out];exact hlt
  obtain ⟨b,o,ha,-,hcell⟩:=HCELL.out (by omega);subst ha;obtain ⟨A,x,B',hd,hal,hx⟩:=zqh cs d0 H0.out i hil;have hxh:zat lo w x:=(zat.append.1 (zat.append.1 (hd▸HCS.out)).2).1;have hxs:zds x:=(zds.append.1 (zds.append.1 (hd▸HST.out)).2).1;have hwc:Data.weights (zcx cs[i])<=1048576:=by have:=zkf cs i hil;have:=HW.out;omega
  rw[zgt] at hwc;obtain ⟨t2,t3,f2,f3,dm,hxf,hm3⟩:=zjz hx;have HRF:Hid (zc9 cs[i]=false->R=false):=zH fun h=>by rw[HVA.out];exact zus _ _ _ hil h
  have HRT:Hid (zc9 cs[i]=true->(cs.take (i+1)).all zc9=true):=zH fun h=>zmf _ _ _ hil HALL.out h
  subst hxf;simp only[zat,and_true] at hxh;obtain ⟨g0,g1,g2,g3⟩:=hxh;rw[zgz] at hxs;have hs2:=zmv (hxs (.row t2 1 f2 (strs cs[i].fields)) (by simp));have hs3:=zt9 (hxs (.row t3 5 f3 dm) (by simp)) hm3;have htx:=zdp g2;rw[Holds] at g3;obtain ⟨⟨ma,mn,mc,rfl,-,hml,hmn,hmc,hmcell⟩,hmh⟩:=g3;have hmlen:=congrArg List.length hm3;rw[za0,zei] at hmlen;obtain rfl:mn=cs[i].methods.length:=by omega
  have e0:=cell_keep HBW.out (zh8 hcell hd hal (.str cs[i].name) rfl);have e1:=cell_keep HBW.out (zcc hcell hd hal 1 (.str cs[i].parent) rfl);have e2:=cell_keep HBW.out (zcc hcell hd hal 2 (.row t2 1 f2 (strs cs[i].fields)) rfl);have e3:=cell_keep HBW.out (zcc hcell hd hal 3 (.row t3 5 (.slice ma cs[i].methods.length mc) dm) rfl);simp only[val] at e0 e1 e2 e3;clear hcell hd hal hx hml hxs HALL HN
  generalize cs[i]=cc at *;obtain ⟨fa,fc,rfl,hfm,-,hfcell⟩:=id htx;have hsz0:cc.name.size<=1048576:=by omega
  have hsz1:cc.parent.size<=1048576:=by omega
  have KN0:=fun w'=>zH (SpecName.zgx cc.name w' hsz0)
  have KN1:=fun w'=>zH (SpecName.zgx cc.parent w' hsz1)
  have HF:Hid (∀ k x,cc.fields[k]?=some x->∃ b o,fa=some ⟨b,o,none⟩/\w.cell? ⟨b,o+k,none⟩=some (.string x)/\x.size<=1048576):=zH fun k x hx=>by obtain ⟨h,rfl⟩:=List.getElem?_eq_some_iff.1 hx;obtain ⟨b,o,e,-,hc⟩:=hfcell (by omega);exact ⟨b,o,e,hc k h,by have:=z6s cc.fields k h;omega⟩
  have HMM:Hid (∀ k mm,cc.methods[k]?=some mm->∃ b o v2 v3 v4,ma=some ⟨b,o,none⟩/\(∀ wr',Below w.heap.size w wr'->wr'.cell? ⟨b,o+k*5,none⟩=some (.string mm.sel)/\wr'.cell? ⟨b,o+k*5+1,none⟩=some (.bool mm.cls)/\wr'.cell? ⟨b,o+k*5+2,none⟩=some v2/\wr'.cell? ⟨b,o+k*5+3,none⟩=some v3/\wr'.cell? ⟨b,o+k*5+4,none⟩=some v4)/\(∀ wr',Below w.heap.size w wr'->Hid (Calls Tryz.prog 43 #[.agg #[.string mm.sel,.bool mm.cls,v2,v3,v4]] wr' fun r w'=>r=.returned (.bool (zbi mm))/\Below wr'.heap.size wr' w'))):=zH fun k mm hmk=>by
   obtain ⟨h,rfl⟩:=List.getElem?_eq_some_iff.1 hmk;obtain ⟨b,o,e,-,hc⟩:=hmcell (by omega);obtain ⟨A,x,B',hd,hal,hx⟩:=zzo cc.methods dm hm3 k h;have hxh:zat lo w x:=(zat.append.1 (zat.append.1 (hd▸hmh)).2).1;have hxs:zds x:=(zds.append.1 (zds.append.1 (hd▸hs3)).2).1;obtain ⟨v2,v3,v4,hag,hma⟩:=zyc hx hxh hxs;obtain ⟨t2,t3,t4,w2,w3,w4,d4,hxf,-⟩:=zh1 hx
   have hvv:v2=w2/\v3=w3/\v4=w4:=by rw[hxf] at hag;have:=congrArg Array.toList (Value.agg.inj hag);simp[vals,val] at this;exact ⟨this.1.symm,this.2.1.symm,this.2.2.symm⟩
   obtain ⟨rfl,rfl,rfl⟩:=hvv;have hwm:=zki cc.methods k h;rw[zc1] at hwm;refine ⟨b,o,v2,v3,v4,e,fun wr' hb=>⟨?_,?_,?_,?_,?_⟩,fun wr' hb=>zH (z1w (hma.below hb) (by omega))⟩
   ·exact cell_keep hb (zh8 hc hd hal (.str cc.methods[k].sel) (by rw[hxf];rfl))
   ·exact cell_keep hb (zcc hc hd hal 1 (.bool cc.methods[k].cls) (by rw[hxf];rfl))
   ·exact cell_keep hb (zcc hc hd hal 2 (.row t2 1 v2 (strs cc.methods[k].params)) (by rw[hxf];rfl))
   ·exact cell_keep hb (zcc hc hd hal 3 (.row t3 1 v3 (strs cc.methods[k].temps)) (by rw[hxf];rfl))
   ·exact cell_keep hb (zcc hc hd hal 4 (.row t4 5 v4 d4) (by rw[hxf];rfl))
  have HCO:Hid (zc9 cc=(Tok.za3 cc.name&&Tok.za3 cc.parent&&decide (cc.fields.length<=4)&&decide (cc.methods.length<=12)&&cc.fields.all Tok.za3&&cc.methods.all zbi)):=zH rfl;generalize zc9 cc=Q at *;have hbx:Below wr.heap.size wr (wr.alloc (.cells #[.string cc.name,.string cc.parent,.slice fa cc.fields.length fc,.slice ma cc.methods.length mc] 75)):=(zB _ _).alloc (zL _) _
  have hcx:Cells wr.heap.size [.str cc.name,.str cc.parent,.row 0 1 (.slice fa cc.fields.length fc) [],.row 0 5 (.slice ma cc.methods.length mc) []] (wr.alloc (.cells #[.string cc.name,.string cc.parent,.slice fa cc.fields.length fc,.slice ma cc.methods.length mc] 75)):=zae wr [.str cc.name,.str cc.parent,.row 0 1 (.slice fa cc.fields.length fc) [],.row 0 5 (.slice ma cc.methods.length mc) []] _
  have HS0:Hid (St w [.row 0 4 (.slice (some ⟨b,o,none⟩) N c0) [],.str m.sel,.bool false,.row 0 1 (.slice pa 0 pc) [],.row 0 1 v3 [],.row 0 5 v4 []] wr.heap.size [.str cc.name,.str cc.parent,.row 0 1 (.slice fa cc.fields.length fc) [],.row 0 5 (.slice ma cc.methods.length mc) []] (wr.alloc (.cells #[.string cc.name,.string cc.parent,.slice fa cc.fields.length fc,.slice ma cc.methods.length mc] 75))):=zH ⟨HBW.out.trans (hbx.mono HBW.out.size),HUB.out.step hbx,hcx⟩
  have hmf:cc.fields.length<=1048576:=by omega
  have hmm:cc.methods.length<=1048576:=by omega
  clear htx hs2 hs3 hm3 hmh hmcell hfcell hfm hmn hmc hmlen g0 g1 g2 hwc hbx hcx HBW HUB hsz0 hsz1;generalize hNF:cc.fields.length=NF at *;generalize hNM:cc.methods.length=NM at *;have HNF:=zH hNF;have HNM:=zH hNM;clear hNF hNM;go_wp2_with fail
  refine (KN0 _).out.mono ?_;rintro e x1 ⟨rfl,hb1⟩;have HS1:=zH (HS0.out.step hb1);clear hb1 HS0 KN0 e0 e1 e2 e3 u0;generalize wr.heap.size=gc at *;generalize Tok.za3 cc.name=b1 at *;cases b1 with
  | false=>
   have hR:R=false:=HRF.out HCO.out;subst hR;clear HRF HRT HCO;go_wp2_with fail
   go_ret;exact ⟨rfl,HS1.out.below⟩
  | true=>
  have d1:=HS1.out.c.at 1 (.str cc.parent) rfl;simp only[val] at d1;go_wp2_with fail
  refine (KN1 _).out.mono ?_;rintro e x2 ⟨rfl,hb2⟩;have HS2:=zH (HS1.out.step hb2);clear hb2 HS1 KN1 d1;generalize Tok.za3 cc.parent=b2 at *;cases b2 with
  | false=>
   have hR:R=false:=HRF.out (by rw[HCO.out];rfl);subst hR;clear HRF HRT HCO;go_wp2_with fail
   go_ret;exact ⟨rfl,HS2.out.below⟩
  | true=>
  have d2:=HS2.out.c.at 2 (.row 0 1 (.slice fa NF fc) []) rfl;have d3:=HS2.out.c.at 3 (.row 0 5 (.slice ma NM mc) []) rfl;simp only[val] at d2 d3;by_cases hf4:(NF:Int)<=4
  case neg=>
   have hR:R=false:=HRF.out (by rw[HCO.out,decide_eq_false (by omega)];rfl)
   subst hR;clear HRF HRT HCO;go_wp2_with fail
   go_ret;exact ⟨rfl,HS2.out.below⟩
  by_cases hm12:(NM:Int)<=12
  case neg=>
   have hR:R=false:=HRF.out (by rw[HCO.out,decide_eq_false (show ¬NM<=12 by omega)];simp)
   subst hR;clear HRF HRT HCO;go_wp2_with fail
   go_ret;exact ⟨rfl,HS2.out.below⟩
  have HCQ:Hid (Q=(cc.fields.all Tok.za3&&cc.methods.all zbi)):=zH (by rw[HCO.out,decide_eq_true (show NF<=4 by omega),decide_eq_true (show NM<=12 by omega)];simp)
  clear HCO;go_wp2_with fail
  clear d2 d3
  go_loopw [5] (fun j wq=>∃ k:Nat,k<=NF/\j=.int .i64 k/\(cc.fields.take k).all Tok.za3=true/\St w [.row 0 4 (.slice (some ⟨b,o,none⟩) N c0) [],.str m.sel,.bool false,.row 0 1 (.slice pa 0 pc) [],.row 0 1 v3 [],.row 0 5 v4 []] gc [.str cc.name,.str cc.parent,.row 0 1 (.slice fa NF fc) [],.row 0 5 (.slice ma NM mc) []] wq) (fun j _=>NF-(intOf j).toNat)
  case atStart=>exact ⟨0,Nat.zero_le _,rfl,rfl,HS2.out⟩
  case round=>
   clear HS2;obtain ⟨k,hk,rfl,hka,hst⟩:=hrel;have HKA:=zH hka;have HS3:=zH hst;have d2:=hst.c.at 2 (.row 0 1 (.slice fa NF fc) []) rfl;simp only[val] at d2;clear hka hst;by_cases hkl:k<NF
   case pos=>
    have hkl2:k<cc.fields.length:=by rw[HNF.out];exact hkl
    obtain ⟨b2,o2,hfa,hfc,hfs⟩:=HF.out k _ (List.getElem?_eq_getElem hkl2);subst hfa;have hfc2:=cell_keep HS3.out.below hfc;have KNK:=fun w'=>zH (SpecName.zgx cc.fields[k] w' hfs)
    have HK1:Hid (Tok.za3 cc.fields[k]=false->Q=false):=zH fun h=>by rw[HCQ.out,zus _ _ _ hkl2 h];rfl
    have HK2:Hid (Tok.za3 cc.fields[k]=true->(cc.fields.take (k+1)).all Tok.za3=true):=zH fun h=>zmf _ _ _ hkl2 HKA.out h
    clear hfc hfs HKA;generalize cc.fields[k]=fk at *;go_wp2_with fail
    refine (KNK _).out.mono ?_;rintro e x4 ⟨rfl,hb4⟩;have HS4:=zH (HS3.out.step hb4);clear hb4 HS3 KNK d2 hfc2;generalize Tok.za3 fk=b4 at *;cases b4 with
    | false=>
     have hR:R=false:=HRF.out (HK1.out rfl);subst hR;clear HRF HRT HK1 HK2 HCQ;go_wp2_with fail
     go_ret;exact ⟨rfl,HS4.out.below⟩
    | true=>
     go_wp2_with fail
     go_roundw
     case rel=>exact ⟨k+1,by omega,by go_num,HK2.out trivial,HS4.out⟩
     case measure=>simp[intOf];omega
   case neg=>
    have hkN:k=NF:=by omega
    have HQ2:Hid (Q=cc.methods.all zbi):=zH (by have h:=HKA.out;rw[hkN,<-HNF.out,List.take_length] at h;rw[HCQ.out,h,Bool.true_and])
    clear hkN HCQ HKA;go_wp2_with fail
    clear d2
    go_loopw [6] (fun j wq=>∃ q:Nat,q<=NM/\j=.int .i64 q/\(cc.methods.take q).all zbi=true/\St w [.row 0 4 (.slice (some ⟨b,o,none⟩) N c0) [],.str m.sel,.bool false,.row 0 1 (.slice pa 0 pc) [],.row 0 1 v3 [],.row 0 5 v4 []] gc [.str cc.name,.str cc.parent,.row 0 1 (.slice fa NF fc) [],.row 0 5 (.slice ma NM mc) []] wq) (fun j _=>NM-(intOf j).toNat)
    case atStart=>exact ⟨0,Nat.zero_le _,rfl,rfl,HS3.out⟩
    case round=>
     clear HS3;obtain ⟨q,hq,rfl,hqa,hst⟩:=hrel;have HQA:=zH hqa;have HS5:=zH hst;have d3:=hst.c.at 3 (.row 0 5 (.slice ma NM mc) []) rfl;simp only[val] at d3;clear hqa hst;by_cases hql:q<NM
     case pos=>
      have hql2:q<cc.methods.length:=by rw[HNM.out];exact hql
      obtain ⟨b3,o3,y2,y3,y4,hma,hmc3,hmk⟩:=HMM.out q _ (List.getElem?_eq_getElem hql2);subst hma;obtain ⟨z0,z1,z2,z3,z4⟩:=hmc3 _ HS5.out.below;have KMQ:=zH (hmk _ HS5.out.below).out;have HK1:Hid (zbi cc.methods[q]=false->Q=false):=zH fun h=>by rw[HQ2.out,zus _ _ _ hql2 h]
      have HK2:Hid (zbi cc.methods[q]=true->(cc.methods.take (q+1)).all zbi=true):=zH fun h=>zmf _ _ _ hql2 HQA.out h
      clear hmc3 hmk HQA;generalize cc.methods[q]=mk at *;go_wp2_with fail
      refine KMQ.out.mono ?_;rintro e x6 ⟨rfl,hb6⟩;have HS6:=zH (HS5.out.step hb6);clear hb6 HS5 KMQ d3 z0 z1 z2 z3 z4;generalize zbi mk=b6 at *;cases b6 with
      | false=>
       have hR:R=false:=HRF.out (HK1.out rfl);subst hR;clear HRF HRT HK1 HK2 HQ2;go_wp2_with fail
       go_ret;exact ⟨rfl,HS6.out.below⟩
      | true=>
       go_wp2_with fail
       go_roundw
       case rel=>exact ⟨q+1,by omega,by go_num,HK2.out trivial,HS6.out⟩
       case measure=>simp[intOf];omega
     case neg=>
      have hqN:q=NM:=by omega
      have hQ:Q=true:=by have h:=HQA.out;rw[hqN,<-HNM.out,List.take_length] at h;rw[HQ2.out,h]
      have HNX:=zH (HRT.out hQ);clear hqN HQ2 HQA hQ;go_wp2_with fail
      go_roundw
      case rel=>exact ⟨i+1,by omega,by go_num,HNX.out,HS5.out.below,HS5.out.u⟩
      case measure=>simp[intOf];omega
end Data
namespace Data
open Go.RowKit
open Strs Tree
theorem z7p (s:ByteArray) (h:Tok.has Tok.words s=true):Tok.sel s=false:=by
 unfold Tok.has at h;rw[List.any_eq_true] at h;obtain ⟨x,hx,he⟩:=h;rw[beq_iff_eq,ByteArray.toList_eq,ByteArray.toList_eq] at he;have hs:s=x:=ByteArray.ext (Array.ext' he.symm);subst hs;have hall:(Tok.words.all fun x=>!Tok.sel x)=true:=by decide +kernel
 have:=List.all_eq_true.1 hall s hx
 simpa using this
theorem zxu (m:M):zbi m=(decide (Tok.zar m.sel=(m.params.length:Int))&&zdm (zcs m)):=by
 unfold zbi zpq;by_cases hc:Tok.zar m.sel=(m.params.length:Int)
 ·have h1:Tok.sel m.sel=true:=by rw[Tok.zhx,decide_eq_true_eq];omega
  have h2:Tok.has Tok.words m.sel=false:=by rw[<-Bool.not_eq_true];intro h;rw[z7p _ h] at h1;cases h1
  rw[h1,h2,decide_eq_true hc];simp
 ·rw[decide_eq_false hc]
  simp
end Data
end Go.Proofs.YtlmhgeanknhcfaaGreatDoor
