/-
  ImplValue ImplIsExpr ImplPrint
-/
import Derived.Test.YtbigfeblomfflaaGreatDoorB22
import Derived.Test.YtbigfeblomfflaaGreatDoorB27
import Derived.Test.YtbigfeblomfflaaGreatDoorB20
set_option maxHeartbeats 4000000
set_option maxRecDepth 10000
namespace Go.Proofs.YtbigfeblomfflaaGreatDoor
namespace ImplRight
open Go.RowKit
open Strs Tree Soft ImplLike ImplPlain Rights ImplVals
open ImplTok (Part)
theorem plain_below {w:World} {a:Addr} {k:Int} {t:ByteArray} {n:Int} {ns:List ByteArray} {ks:List E} (h:Nd w a (.mk k t n ns ks)):
  Calls Tryz.prog 91 #[.pointer (some a)] w (Part (plain k t n ns) w):=(plain_any h).mono fun _ _ ⟨h1,h2⟩=>⟨h1,h2.below⟩
theorem val_1 {w:World} {a:Addr} {t:ByteArray} {n:Int} {ns:List ByteArray} {ks:List E} (hw:weight (.mk 1 t n ns ks)<=1048576) (h:Nd w a (.mk 1 t n ns ks)):
  Calls Tryz.prog 93 #[.pointer (some a)] w (Part (right (.mk 1 t n ns ks) false) w):=by
 have KP:=zH (plain_below h);generalize hD:right (.mk 1 t n ns ks) false=D;have HD:=zH hD;clear hD;have HND:=zH h;obtain ⟨b,o,vn,x,cap,rfl,c0,c1,c2,c3,c4,hm,hx,hk⟩:=see2 h;clear h;simp only[E.kind,E.text,E.num,E.names,E.kids] at *;have HWW:=zH hw;rw[weight] at hw;have ht:t.size<=1048576:=by omega
 unfold maxLen at hm;have KP2:Hid (∀ P,plain 1 t n ns=P->Calls Tryz.prog 91 #[.pointer (some ⟨b,o,none⟩)] w (Part P w)):=fun P hP=>hP▸KP.out
 clear KP;cases hP:plain 1 t n ns with
 | false=>
  have hD:D=false:=by rw[<-HD.out];exact not_plain hP
  subst hD;have KP:=zH (KP2.out _ hP);clear HD hP KP2 HWW HND hw hx hk;generalize ks.length=N at *;go_enter Tryz.func93,Tryz.ntmps93;go_wp2_with fail
  refine KP.out.mono ?_;rintro r w1 ⟨rfl,hb1⟩;have B1:=zH hb1;clear hb1;go_wp2_with fail
  go_ret;exact ⟨rfl,B1.out⟩
 | true=>
  have KP:=zH (KP2.out _ hP);have HPL:=zH hP;clear hP KP2;have hv:=right_1 (ks:=ks) HPL.out;rw[HD.out] at hv;have HV:=zH hv;clear hv HD HPL HND HWW hw hx hk;generalize ks.length=N at *;by_cases h0:0<=n
  ·by_cases h9:n<=999999999
   ·by_cases hN:N=0
    ·have hb:((N:Int)==0)=true:=by rw[beq_iff_eq];omega
     have hD:D=true:=by rw[HV.out,decide_eq_true h0,decide_eq_true h9,decide_eq_true hN];rfl
     have HN:=zH hN;clear hN;subst hD;clear HV;go_enter Tryz.func93,Tryz.ntmps93;go_wp2_with fail
     refine KP.out.mono ?_;rintro r w1 ⟨rfl,hb1⟩;have B1:=zH hb1;have d0:=cell_keep hb1 c0;have d1:=cell_keep hb1 c1;have d2:=cell_keep hb1 c2;have d4:=cell_keep hb1 c4;clear hb1 c0 c1 c2 c3 c4;go_wp2_with fail
     go_ret;exact ⟨rfl,B1.out⟩
    ·have hb:((N:Int)==0)=false:=by rw[beq_eq_false_iff_ne];omega
     have hD:D=false:=by rw[HV.out,decide_eq_false hN];simp
     subst hD;clear HV hN;go_enter Tryz.func93,Tryz.ntmps93;go_wp2_with fail
     refine KP.out.mono ?_;rintro r w1 ⟨rfl,hb1⟩;have B1:=zH hb1;have d0:=cell_keep hb1 c0;have d1:=cell_keep hb1 c1;have d2:=cell_keep hb1 c2;have d4:=cell_keep hb1 c4;clear hb1 c0 c1 c2 c3 c4;go_wp2_with fail
     go_ret;exact ⟨rfl,B1.out⟩
   ·have hD:D=false:=by rw[HV.out,decide_eq_false h9];simp
    subst hD;clear HV;go_enter Tryz.func93,Tryz.ntmps93;go_wp2_with fail
    refine KP.out.mono ?_;rintro r w1 ⟨rfl,hb1⟩;have B1:=zH hb1;have d0:=cell_keep hb1 c0;have d1:=cell_keep hb1 c1;have d2:=cell_keep hb1 c2;have d4:=cell_keep hb1 c4;clear hb1 c0 c1 c2 c3 c4;go_wp2_with fail
    go_ret;exact ⟨rfl,B1.out⟩
  ·have hD:D=false:=by rw[HV.out,decide_eq_false h0];simp
   subst hD;clear HV;go_enter Tryz.func93,Tryz.ntmps93;go_wp2_with fail
   refine KP.out.mono ?_;rintro r w1 ⟨rfl,hb1⟩;have B1:=zH hb1;have d0:=cell_keep hb1 c0;have d1:=cell_keep hb1 c1;have d2:=cell_keep hb1 c2;have d4:=cell_keep hb1 c4;clear hb1 c0 c1 c2 c3 c4;go_wp2_with fail
   go_ret;exact ⟨rfl,B1.out⟩
theorem val_2 {w:World} {a:Addr} {t:ByteArray} {n:Int} {ns:List ByteArray} {ks:List E} (hw:weight (.mk 2 t n ns ks)<=1048576) (h:Nd w a (.mk 2 t n ns ks)):
  Calls Tryz.prog 93 #[.pointer (some a)] w (Part (right (.mk 2 t n ns ks) false) w):=by
 have KP:=zH (plain_below h);generalize hD:right (.mk 2 t n ns ks) false=D;have HD:=zH hD;clear hD;have HND:=zH h;obtain ⟨b,o,vn,x,cap,rfl,c0,c1,c2,c3,c4,hm,hx,hk⟩:=see2 h;clear h;simp only[E.kind,E.text,E.num,E.names,E.kids] at *;have HWW:=zH hw;rw[weight] at hw;have ht:t.size<=1048576:=by omega
 unfold maxLen at hm;have KP2:Hid (∀ P,plain 2 t n ns=P->Calls Tryz.prog 91 #[.pointer (some ⟨b,o,none⟩)] w (Part P w)):=fun P hP=>hP▸KP.out
 clear KP;cases hP:plain 2 t n ns with
 | false=>
  have hD:D=false:=by rw[<-HD.out];exact not_plain hP
  subst hD;have KP:=zH (KP2.out _ hP);clear HD hP KP2 HWW HND hw hx hk;generalize ks.length=N at *;go_enter Tryz.func93,Tryz.ntmps93;go_wp2_with fail
  refine KP.out.mono ?_;rintro r w1 ⟨rfl,hb1⟩;have B1:=zH hb1;clear hb1;go_wp2_with fail
  go_ret;exact ⟨rfl,B1.out⟩
 | true=>
  have KP:=zH (KP2.out _ hP);have HPL:=zH hP;clear hP KP2;have hv:=right_2 (ks:=ks) HPL.out;rw[HD.out] at hv;have HV:=zH hv;have KC:=fun w=>zH (ImplQuot.quotable_any t w)
  clear hv HD HPL HND HWW hw hx hk;generalize isText t=Q at *;generalize ks.length=N at *;cases Q with
  | false=>
   have hD:D=false:=by rw[HV.out];rfl
   subst hD;clear HV;go_enter Tryz.func93,Tryz.ntmps93;go_wp2_with fail
   refine KP.out.mono ?_;rintro r w1 ⟨rfl,hb1⟩;have B1:=zH hb1;have d0:=cell_keep hb1 c0;have d1:=cell_keep hb1 c1;have d2:=cell_keep hb1 c2;have d4:=cell_keep hb1 c4;clear hb1 c0 c1 c2 c3 c4;go_wp2_with fail
   refine (KC _).out.mono ?_;rintro r w2 ⟨rfl,hb2⟩;have B2:=zH (B1.out.trans (hb2.mono B1.out.size));clear hb2 d0 d1 d2 d4;go_wp2_with fail
   go_ret;exact ⟨rfl,B2.out⟩
  | true=>
   by_cases hN:N=0
   ·have hb:((N:Int)==0)=true:=by rw[beq_iff_eq];omega
    have hD:D=true:=by rw[HV.out,decide_eq_true hN];rfl
    have HN:=zH hN;clear hN;subst hD;clear HV;go_enter Tryz.func93,Tryz.ntmps93;go_wp2_with fail
    refine KP.out.mono ?_;rintro r w1 ⟨rfl,hb1⟩;have B1:=zH hb1;have d0:=cell_keep hb1 c0;have d1:=cell_keep hb1 c1;have d2:=cell_keep hb1 c2;have d4:=cell_keep hb1 c4;clear hb1 c0 c1 c2 c3 c4;go_wp2_with fail
    refine (KC _).out.mono ?_;rintro r w2 ⟨rfl,hb2⟩;have B2:=zH (B1.out.trans (hb2.mono B1.out.size));have e4:=cell_keep hb2 d4;clear hb2 d0 d1 d2 d4;go_wp2_with fail
    go_ret;exact ⟨rfl,B2.out⟩
   ·have hb:((N:Int)==0)=false:=by rw[beq_eq_false_iff_ne];omega
    have hD:D=false:=by rw[HV.out,decide_eq_false hN];rfl
    subst hD;clear HV hN;go_enter Tryz.func93,Tryz.ntmps93;go_wp2_with fail
    refine KP.out.mono ?_;rintro r w1 ⟨rfl,hb1⟩;have B1:=zH hb1;have d0:=cell_keep hb1 c0;have d1:=cell_keep hb1 c1;have d2:=cell_keep hb1 c2;have d4:=cell_keep hb1 c4;clear hb1 c0 c1 c2 c3 c4;go_wp2_with fail
    refine (KC _).out.mono ?_;rintro r w2 ⟨rfl,hb2⟩;have B2:=zH (B1.out.trans (hb2.mono B1.out.size));have e4:=cell_keep hb2 d4;clear hb2 d0 d1 d2 d4;go_wp2_with fail
    go_ret;exact ⟨rfl,B2.out⟩
theorem val_3 {w:World} {a:Addr} {t:ByteArray} {n:Int} {ns:List ByteArray} {ks:List E} (hw:weight (.mk 3 t n ns ks)<=1048576) (h:Nd w a (.mk 3 t n ns ks)):
  Calls Tryz.prog 93 #[.pointer (some a)] w (Part (right (.mk 3 t n ns ks) false) w):=by
 have KP:=zH (plain_below h);generalize hD:right (.mk 3 t n ns ks) false=D;have HD:=zH hD;clear hD;have HND:=zH h;obtain ⟨b,o,vn,x,cap,rfl,c0,c1,c2,c3,c4,hm,hx,hk⟩:=see2 h;clear h;simp only[E.kind,E.text,E.num,E.names,E.kids] at *;have HWW:=zH hw;rw[weight] at hw;have ht:t.size<=1048576:=by omega
 unfold maxLen at hm;have KP2:Hid (∀ P,plain 3 t n ns=P->Calls Tryz.prog 91 #[.pointer (some ⟨b,o,none⟩)] w (Part P w)):=fun P hP=>hP▸KP.out
 clear KP;cases hP:plain 3 t n ns with
 | false=>
  have hD:D=false:=by rw[<-HD.out];exact not_plain hP
  subst hD;have KP:=zH (KP2.out _ hP);clear HD hP KP2 HWW HND hw hx hk;generalize ks.length=N at *;go_enter Tryz.func93,Tryz.ntmps93;go_wp2_with fail
  refine KP.out.mono ?_;rintro r w1 ⟨rfl,hb1⟩;have B1:=zH hb1;clear hb1;go_wp2_with fail
  go_ret;exact ⟨rfl,B1.out⟩
 | true=>
  have KP:=zH (KP2.out _ hP);have HPL:=zH hP;clear hP KP2;have hv:=right_3 (ks:=ks) HPL.out;rw[HD.out] at hv;have HV:=zH hv;have KC:=fun w=>zH (ImplCount.sel_any t w ht)
  clear hv HD HPL HND HWW hw hx hk;generalize Tok.sel t=Q at *;generalize ks.length=N at *;cases Q with
  | false=>
   have hD:D=false:=by rw[HV.out];rfl
   subst hD;clear HV;go_enter Tryz.func93,Tryz.ntmps93;go_wp2_with fail
   refine KP.out.mono ?_;rintro r w1 ⟨rfl,hb1⟩;have B1:=zH hb1;have d0:=cell_keep hb1 c0;have d1:=cell_keep hb1 c1;have d2:=cell_keep hb1 c2;have d4:=cell_keep hb1 c4;clear hb1 c0 c1 c2 c3 c4;go_wp2_with fail
   refine (KC _).out.mono ?_;rintro r w2 ⟨rfl,hb2⟩;have B2:=zH (B1.out.trans (hb2.mono B1.out.size));clear hb2 d0 d1 d2 d4;go_wp2_with fail
   go_ret;exact ⟨rfl,B2.out⟩
  | true=>
   by_cases hN:N=0
   ·have hb:((N:Int)==0)=true:=by rw[beq_iff_eq];omega
    have hD:D=true:=by rw[HV.out,decide_eq_true hN];rfl
    have HN:=zH hN;clear hN;subst hD;clear HV;go_enter Tryz.func93,Tryz.ntmps93;go_wp2_with fail
    refine KP.out.mono ?_;rintro r w1 ⟨rfl,hb1⟩;have B1:=zH hb1;have d0:=cell_keep hb1 c0;have d1:=cell_keep hb1 c1;have d2:=cell_keep hb1 c2;have d4:=cell_keep hb1 c4;clear hb1 c0 c1 c2 c3 c4;go_wp2_with fail
    refine (KC _).out.mono ?_;rintro r w2 ⟨rfl,hb2⟩;have B2:=zH (B1.out.trans (hb2.mono B1.out.size));have e4:=cell_keep hb2 d4;clear hb2 d0 d1 d2 d4;go_wp2_with fail
    go_ret;exact ⟨rfl,B2.out⟩
   ·have hb:((N:Int)==0)=false:=by rw[beq_eq_false_iff_ne];omega
    have hD:D=false:=by rw[HV.out,decide_eq_false hN];rfl
    subst hD;clear HV hN;go_enter Tryz.func93,Tryz.ntmps93;go_wp2_with fail
    refine KP.out.mono ?_;rintro r w1 ⟨rfl,hb1⟩;have B1:=zH hb1;have d0:=cell_keep hb1 c0;have d1:=cell_keep hb1 c1;have d2:=cell_keep hb1 c2;have d4:=cell_keep hb1 c4;clear hb1 c0 c1 c2 c3 c4;go_wp2_with fail
    refine (KC _).out.mono ?_;rintro r w2 ⟨rfl,hb2⟩;have B2:=zH (B1.out.trans (hb2.mono B1.out.size));have e4:=cell_keep hb2 d4;clear hb2 d0 d1 d2 d4;go_wp2_with fail
    go_ret;exact ⟨rfl,B2.out⟩
theorem val_4 {w:World} {a:Addr} {t:ByteArray} {n:Int} {ns:List ByteArray} {ks:List E} (hw:weight (.mk 4 t n ns ks)<=1048576) (h:Nd w a (.mk 4 t n ns ks)):
  Calls Tryz.prog 93 #[.pointer (some a)] w (Part (right (.mk 4 t n ns ks) false) w):=by
 have KP:=zH (plain_below h);generalize hD:right (.mk 4 t n ns ks) false=D;have HD:=zH hD;clear hD;have HND:=zH h;obtain ⟨b,o,vn,x,cap,rfl,c0,c1,c2,c3,c4,hm,hx,hk⟩:=see2 h;clear h;simp only[E.kind,E.text,E.num,E.names,E.kids] at *;have HWW:=zH hw;rw[weight] at hw;have ht:t.size<=1048576:=by omega
 unfold maxLen at hm;have KP2:Hid (∀ P,plain 4 t n ns=P->Calls Tryz.prog 91 #[.pointer (some ⟨b,o,none⟩)] w (Part P w)):=fun P hP=>hP▸KP.out
 clear KP;cases hP:plain 4 t n ns with
 | false=>
  have hD:D=false:=by rw[<-HD.out];exact not_plain hP
  subst hD;have KP:=zH (KP2.out _ hP);clear HD hP KP2 HWW HND hw hx hk;generalize ks.length=N at *;go_enter Tryz.func93,Tryz.ntmps93;go_wp2_with fail
  refine KP.out.mono ?_;rintro r w1 ⟨rfl,hb1⟩;have B1:=zH hb1;clear hb1;go_wp2_with fail
  go_ret;exact ⟨rfl,B1.out⟩
 | true=>
  have KP:=zH (KP2.out _ hP);have HPL:=zH hP;clear hP KP2;have hv:=right_4 (ks:=ks) HPL.out;rw[HD.out] at hv;have HV:=zH hv;have KC:=fun w=>zH (ImplTok.is_name t w)
  clear hv HD HPL HND HWW hw hx hk;generalize Tok.isName t=Q at *;generalize ks.length=N at *;cases Q with
  | false=>
   have hD:D=false:=by rw[HV.out];rfl
   subst hD;clear HV;go_enter Tryz.func93,Tryz.ntmps93;go_wp2_with fail
   refine KP.out.mono ?_;rintro r w1 ⟨rfl,hb1⟩;have B1:=zH hb1;have d0:=cell_keep hb1 c0;have d1:=cell_keep hb1 c1;have d2:=cell_keep hb1 c2;have d4:=cell_keep hb1 c4;clear hb1 c0 c1 c2 c3 c4;go_wp2_with fail
   refine (KC _).out.mono ?_;rintro r w2 ⟨rfl,hb2⟩;have B2:=zH (B1.out.trans (hb2.mono B1.out.size));clear hb2 d0 d1 d2 d4;go_wp2_with fail
   go_ret;exact ⟨rfl,B2.out⟩
  | true=>
   by_cases hN:N=0
   ·have hb:((N:Int)==0)=true:=by rw[beq_iff_eq];omega
    have hD:D=true:=by rw[HV.out,decide_eq_true hN];rfl
    have HN:=zH hN;clear hN;subst hD;clear HV;go_enter Tryz.func93,Tryz.ntmps93;go_wp2_with fail
    refine KP.out.mono ?_;rintro r w1 ⟨rfl,hb1⟩;have B1:=zH hb1;have d0:=cell_keep hb1 c0;have d1:=cell_keep hb1 c1;have d2:=cell_keep hb1 c2;have d4:=cell_keep hb1 c4;clear hb1 c0 c1 c2 c3 c4;go_wp2_with fail
    refine (KC _).out.mono ?_;rintro r w2 ⟨rfl,hb2⟩;have B2:=zH (B1.out.trans (hb2.mono B1.out.size));have e4:=cell_keep hb2 d4;clear hb2 d0 d1 d2 d4;go_wp2_with fail
    go_ret;exact ⟨rfl,B2.out⟩
   ·have hb:((N:Int)==0)=false:=by rw[beq_eq_false_iff_ne];omega
    have hD:D=false:=by rw[HV.out,decide_eq_false hN];rfl
    subst hD;clear HV hN;go_enter Tryz.func93,Tryz.ntmps93;go_wp2_with fail
    refine KP.out.mono ?_;rintro r w1 ⟨rfl,hb1⟩;have B1:=zH hb1;have d0:=cell_keep hb1 c0;have d1:=cell_keep hb1 c1;have d2:=cell_keep hb1 c2;have d4:=cell_keep hb1 c4;clear hb1 c0 c1 c2 c3 c4;go_wp2_with fail
    refine (KC _).out.mono ?_;rintro r w2 ⟨rfl,hb2⟩;have B2:=zH (B1.out.trans (hb2.mono B1.out.size));have e4:=cell_keep hb2 d4;clear hb2 d0 d1 d2 d4;go_wp2_with fail
    go_ret;exact ⟨rfl,B2.out⟩
theorem val_5 {w:World} {a:Addr} {t:ByteArray} {n:Int} {ns:List ByteArray} {ks:List E} (ih:∀ e,e∈ks->OkV e) (hw:weight (.mk 5 t n ns ks)<=1048576) (h:Nd w a (.mk 5 t n ns ks)):
  Calls Tryz.prog 93 #[.pointer (some a)] w (Part (right (.mk 5 t n ns ks) false) w):=by
 have KP:=zH (plain_below h);generalize hD:right (.mk 5 t n ns ks) false=D;have HD:=zH hD;clear hD;have HND:=zH h;obtain ⟨b,o,vn,x,cap,rfl,c0,c1,c2,c3,c4,hm,hx,hk⟩:=see2 h;clear h;simp only[E.kind,E.text,E.num,E.names,E.kids] at *;have HWW:=zH hw;rw[weight] at hw;have ht:t.size<=1048576:=by omega
 unfold maxLen at hm;have KP2:Hid (∀ P,plain 5 t n ns=P->Calls Tryz.prog 91 #[.pointer (some ⟨b,o,none⟩)] w (Part P w)):=fun P hP=>hP▸KP.out
 clear KP;cases hP:plain 5 t n ns with
 | false=>
  have hD:D=false:=by rw[<-HD.out];exact not_plain hP
  subst hD;have KP:=zH (KP2.out _ hP);clear HD hP KP2 HWW HND hw hx hk;generalize ks.length=N at *;go_enter Tryz.func93,Tryz.ntmps93;go_wp2_with fail
  refine KP.out.mono ?_;rintro r w1 ⟨rfl,hb1⟩;have B1:=zH hb1;clear hb1;go_wp2_with fail
  go_ret;exact ⟨rfl,B1.out⟩
 | true=>
  have KP:=zH (KP2.out _ hP);have HPL:=zH hP;clear hP KP2;have hv:=right_5 (ks:=ks) HPL.out;rw[HD.out] at hv;have HV:=zH hv;have KC:=fun w=>zH (ImplTok.is_name t w)
  have KV:=fun w' (hb:Below w.heap.size w w')=>zH (vals_any (cap:=cap) ih (by omega) (hk.keep hb) (by unfold maxLen;omega))
  clear hv HD HPL HND HWW hw hx hk ih;generalize Tok.isName t=Q at *;generalize rights false ks=R at *;generalize ks.length=N at *;cases Q with
  | false=>
   have hD:D=false:=by rw[HV.out];rfl
   subst hD;clear HV;go_enter Tryz.func93,Tryz.ntmps93;go_wp2_with fail
   refine KP.out.mono ?_;rintro r w1 ⟨rfl,hb1⟩;have B1:=zH hb1;have d0:=cell_keep hb1 c0;have d1:=cell_keep hb1 c1;have d2:=cell_keep hb1 c2;have d4:=cell_keep hb1 c4;clear hb1 c0 c1 c2 c3 c4;go_wp2_with fail
   refine (KC _).out.mono ?_;rintro r w2 ⟨rfl,hb2⟩;have B2:=zH (B1.out.trans (hb2.mono B1.out.size));clear hb2 d0 d1 d2 d4;go_wp2_with fail
   go_ret;exact ⟨rfl,B2.out⟩
  | true=>
   by_cases hN:N=1
   ·have hb:((N:Int)==1)=true:=by rw[beq_iff_eq];omega
    have hD:D=R:=by rw[HV.out,decide_eq_true hN];rfl
    have HN:=zH hN;clear hN;subst hD;clear HV;go_enter Tryz.func93,Tryz.ntmps93;go_wp2_with fail
    refine KP.out.mono ?_;rintro r w1 ⟨rfl,hb1⟩;have B1:=zH hb1;have d0:=cell_keep hb1 c0;have d1:=cell_keep hb1 c1;have d2:=cell_keep hb1 c2;have d4:=cell_keep hb1 c4;clear hb1 c0 c1 c2 c3 c4;go_wp2_with fail
    refine (KC _).out.mono ?_;rintro r w2 ⟨rfl,hb2⟩;have B2:=zH (B1.out.trans (hb2.mono B1.out.size));have e4:=cell_keep hb2 d4;clear hb2 d0 d1 d2 d4;go_wp2_with fail
    refine (KV _ B2.out).out.mono ?_;rintro r w3 ⟨rfl,hb3⟩;have B3:=zH (B2.out.trans (hb3.mono B2.out.size));clear hb3 e4;go_wp2_with fail
    go_ret;exact ⟨rfl,B3.out⟩
   ·have hb:((N:Int)==1)=false:=by rw[beq_eq_false_iff_ne];omega
    have hD:D=false:=by rw[HV.out,decide_eq_false hN];rfl
    subst hD;clear HV hN;go_enter Tryz.func93,Tryz.ntmps93;go_wp2_with fail
    refine KP.out.mono ?_;rintro r w1 ⟨rfl,hb1⟩;have B1:=zH hb1;have d0:=cell_keep hb1 c0;have d1:=cell_keep hb1 c1;have d2:=cell_keep hb1 c2;have d4:=cell_keep hb1 c4;clear hb1 c0 c1 c2 c3 c4;go_wp2_with fail
    refine (KC _).out.mono ?_;rintro r w2 ⟨rfl,hb2⟩;have B2:=zH (B1.out.trans (hb2.mono B1.out.size));have e4:=cell_keep hb2 d4;clear hb2 d0 d1 d2 d4;go_wp2_with fail
    go_ret;exact ⟨rfl,B2.out⟩
theorem val_6 {w:World} {a:Addr} {t:ByteArray} {n:Int} {ns:List ByteArray} {ks:List E} (ih:∀ e,e∈ks->OkV e) (hw:weight (.mk 6 t n ns ks)<=1048576) (h:Nd w a (.mk 6 t n ns ks)):
  Calls Tryz.prog 93 #[.pointer (some a)] w (Part (right (.mk 6 t n ns ks) false) w):=by
 have KP:=zH (plain_below h);generalize hD:right (.mk 6 t n ns ks) false=D;have HD:=zH hD;clear hD;have HND:=zH h;obtain ⟨b,o,vn,x,cap,rfl,c0,c1,c2,c3,c4,hm,hx,hk⟩:=see2 h;clear h;simp only[E.kind,E.text,E.num,E.names,E.kids] at *;have HWW:=zH hw;rw[weight] at hw;have ht:t.size<=1048576:=by omega
 unfold maxLen at hm;have KP2:Hid (∀ P,plain 6 t n ns=P->Calls Tryz.prog 91 #[.pointer (some ⟨b,o,none⟩)] w (Part P w)):=fun P hP=>hP▸KP.out
 clear KP;cases hP:plain 6 t n ns with
 | false=>
  have hD:D=false:=by rw[<-HD.out];exact not_plain hP
  subst hD;have KP:=zH (KP2.out _ hP);clear HD hP KP2 HWW HND hw hx hk;generalize ks.length=N at *;go_enter Tryz.func93,Tryz.ntmps93;go_wp2_with fail
  refine KP.out.mono ?_;rintro r w1 ⟨rfl,hb1⟩;have B1:=zH hb1;clear hb1;go_wp2_with fail
  go_ret;exact ⟨rfl,B1.out⟩
 | true=>
  have KP:=zH (KP2.out _ hP);have HPL:=zH hP;clear hP KP2;have KC:=fun w' (hb:Below w.heap.size w w')=>zH (show Calls Tryz.prog 154 #[.pointer (some ⟨b,o,none⟩),.int .i64 1] w' (Part D w') from ((right_6 Tok.sel_is HPL.out).symm.trans HD.out)▸send_any 1 (.inr rfl) ih HWW.out (HND.out.keep hb))
  clear HD HPL HND HWW hw hx hk ih;go_enter Tryz.func93,Tryz.ntmps93;go_wp2_with fail
  refine KP.out.mono ?_;rintro r w1 ⟨rfl,hb1⟩;have B1:=zH hb1;have d0:=cell_keep hb1 c0;have d1:=cell_keep hb1 c1;have d2:=cell_keep hb1 c2;have d4:=cell_keep hb1 c4;clear hb1 c0 c1 c2 c3 c4;go_wp2_with fail
  refine (KC _ B1.out).out.mono ?_;rintro r w2 ⟨rfl,hb2⟩;have B2:=zH (B1.out.trans (hb2.mono B1.out.size));clear hb2 d0 d1 d2 d4;go_wp2_with fail
  go_ret;exact ⟨rfl,B2.out⟩
theorem val_7 {w:World} {a:Addr} {t:ByteArray} {n:Int} {ns:List ByteArray} {ks:List E} (ih:∀ e,e∈ks->OkV e) (ih2:∀ m,m∈ks->∀ g,g∈m.kids->OkV g) (hw:weight (.mk 7 t n ns ks)<=1048576) (h:Nd w a (.mk 7 t n ns ks)):
  Calls Tryz.prog 93 #[.pointer (some a)] w (Part (right (.mk 7 t n ns ks) false) w):=by
 have KP:=zH (plain_below h);generalize hD:right (.mk 7 t n ns ks) false=D;have HD:=zH hD;clear hD;have HND:=zH h;obtain ⟨b,o,vn,x,cap,rfl,c0,c1,c2,c3,c4,hm,hx,hk⟩:=see2 h;clear h;simp only[E.kind,E.text,E.num,E.names,E.kids] at *;have HWW:=zH hw;rw[weight] at hw;have ht:t.size<=1048576:=by omega
 unfold maxLen at hm;have KP2:Hid (∀ P,plain 7 t n ns=P->Calls Tryz.prog 91 #[.pointer (some ⟨b,o,none⟩)] w (Part P w)):=fun P hP=>hP▸KP.out
 clear KP;cases hP:plain 7 t n ns with
 | false=>
  have hD:D=false:=by rw[<-HD.out];exact not_plain hP
  subst hD;have KP:=zH (KP2.out _ hP);clear HD hP KP2 HWW HND hw hx hk;generalize ks.length=N at *;go_enter Tryz.func93,Tryz.ntmps93;go_wp2_with fail
  refine KP.out.mono ?_;rintro r w1 ⟨rfl,hb1⟩;have B1:=zH hb1;clear hb1;go_wp2_with fail
  go_ret;exact ⟨rfl,B1.out⟩
 | true=>
  have KP:=zH (KP2.out _ hP);have HPL:=zH hP;clear hP KP2;have KC:=fun w' (hb:Below w.heap.size w w')=>zH (cascade_any D ((right_7 HPL.out).symm.trans HD.out) ih ih2 HWW.out (HND.out.keep hb))
  clear HD HPL HND HWW hw hx hk ih ih2;go_enter Tryz.func93,Tryz.ntmps93;go_wp2_with fail
  refine KP.out.mono ?_;rintro r w1 ⟨rfl,hb1⟩;have B1:=zH hb1;have d0:=cell_keep hb1 c0;have d1:=cell_keep hb1 c1;have d2:=cell_keep hb1 c2;have d4:=cell_keep hb1 c4;clear hb1 c0 c1 c2 c3 c4;go_wp2_with fail
  refine (KC _ B1.out).out.mono ?_;rintro r w2 ⟨rfl,hb2⟩;have B2:=zH (B1.out.trans (hb2.mono B1.out.size));clear hb2 d0 d1 d2 d4;go_wp2_with fail
  go_ret;exact ⟨rfl,B2.out⟩
theorem val_8 {w:World} {a:Addr} {t:ByteArray} {n:Int} {ns:List ByteArray} {ks:List E} (ih:∀ m,m∈ks->OkV m/\OkS m) (hw:weight (.mk 8 t n ns ks)<=1048576) (h:Nd w a (.mk 8 t n ns ks)):
  Calls Tryz.prog 93 #[.pointer (some a)] w (Part (right (.mk 8 t n ns ks) false) w):=by
 have KP:=zH (plain_below h);generalize hD:right (.mk 8 t n ns ks) false=D;have HD:=zH hD;clear hD;have HND:=zH h;obtain ⟨b,o,vn,x,cap,rfl,c0,c1,c2,c3,c4,hm,hx,hk⟩:=see2 h;clear h;simp only[E.kind,E.text,E.num,E.names,E.kids] at *;have HWW:=zH hw;rw[weight] at hw;have ht:t.size<=1048576:=by omega
 unfold maxLen at hm;have KP2:Hid (∀ P,plain 8 t n ns=P->Calls Tryz.prog 91 #[.pointer (some ⟨b,o,none⟩)] w (Part P w)):=fun P hP=>hP▸KP.out
 clear KP;cases hP:plain 8 t n ns with
 | false=>
  have hD:D=false:=by rw[<-HD.out];exact not_plain hP
  subst hD;have KP:=zH (KP2.out _ hP);clear HD hP KP2 HWW HND hw hx hk;generalize ks.length=N at *;go_enter Tryz.func93,Tryz.ntmps93;go_wp2_with fail
  refine KP.out.mono ?_;rintro r w1 ⟨rfl,hb1⟩;have B1:=zH hb1;clear hb1;go_wp2_with fail
  go_ret;exact ⟨rfl,B1.out⟩
 | true=>
  have KP:=zH (KP2.out _ hP);have HPL:=zH hP;clear hP KP2;have KC:=fun w' (hb:Below w.heap.size w w')=>zH (block_any D ((right_8 HPL.out).symm.trans HD.out) ih HWW.out (HND.out.keep hb))
  clear HD HPL HND HWW hw hx hk ih;go_enter Tryz.func93,Tryz.ntmps93;go_wp2_with fail
  refine KP.out.mono ?_;rintro r w1 ⟨rfl,hb1⟩;have B1:=zH hb1;have d0:=cell_keep hb1 c0;have d1:=cell_keep hb1 c1;have d2:=cell_keep hb1 c2;have d4:=cell_keep hb1 c4;clear hb1 c0 c1 c2 c3 c4;go_wp2_with fail
  refine (KC _ B1.out).out.mono ?_;rintro r w2 ⟨rfl,hb2⟩;have B2:=zH (B1.out.trans (hb2.mono B1.out.size));clear hb2 d0 d1 d2 d4;go_wp2_with fail
  go_ret;exact ⟨rfl,B2.out⟩
theorem val_o {w:World} {a:Addr} {k:Int} {t:ByteArray} {n:Int} {ns:List ByteArray} {ks:List E} (h1:¬k=1) (h2:¬k=2) (h3:¬k=3) (h4:¬k=4) (h5:¬k=5) (h6:¬k=6) (h7:¬k=7) (h8:¬k=8) (hw:weight (.mk k t n ns ks)<=1048576) (h:Nd w a (.mk k t n ns ks)):
  Calls Tryz.prog 93 #[.pointer (some a)] w (Part (right (.mk k t n ns ks) false) w):=by
 have KP:=zH (plain_below h);generalize hD:right (.mk k t n ns ks) false=D;have HD:=zH hD;clear hD;have HND:=zH h;obtain ⟨b,o,vn,x,cap,rfl,c0,c1,c2,c3,c4,hm,hx,hk⟩:=see2 h;clear h;simp only[E.kind,E.text,E.num,E.names,E.kids] at *;have HWW:=zH hw;rw[weight] at hw;have ht:t.size<=1048576:=by omega
 unfold maxLen at hm;have KP2:Hid (∀ P,plain k t n ns=P->Calls Tryz.prog 91 #[.pointer (some ⟨b,o,none⟩)] w (Part P w)):=fun P hP=>hP▸KP.out
 clear KP;cases hP:plain k t n ns with
 | false=>
  have hD:D=false:=by rw[<-HD.out];exact not_plain hP
  subst hD;have KP:=zH (KP2.out _ hP);clear HD hP KP2 HWW HND hw hx hk;generalize ks.length=N at *;go_enter Tryz.func93,Tryz.ntmps93;go_wp2_with fail
  refine KP.out.mono ?_;rintro r w1 ⟨rfl,hb1⟩;have B1:=zH hb1;clear hb1;go_wp2_with fail
  go_ret;exact ⟨rfl,B1.out⟩
 | true=>
  have KP:=zH (KP2.out _ hP);have HPL:=zH hP;clear hP KP2;have hD:D=false:=by rw[<-HD.out];exact right_o h1 h2 h3 h4 h5 h6 h7 h8
  subst hD;have b1:(k==1)=false:=by rw[beq_eq_false_iff_ne];exact h1
  have b2:(k==2)=false:=by rw[beq_eq_false_iff_ne];exact h2
  have b3:(k==3)=false:=by rw[beq_eq_false_iff_ne];exact h3
  have b4:(k==4)=false:=by rw[beq_eq_false_iff_ne];exact h4
  have b5:(k==5)=false:=by rw[beq_eq_false_iff_ne];exact h5
  have b6:(k==6)=false:=by rw[beq_eq_false_iff_ne];exact h6
  have b7:(k==7)=false:=by rw[beq_eq_false_iff_ne];exact h7
  have b8:(k==8)=false:=by rw[beq_eq_false_iff_ne];exact h8
  clear HD HPL HND HWW hw hx hk h1 h2 h3 h4 h5 h6 h7 h8;go_enter Tryz.func93,Tryz.ntmps93;go_wp2_with fail
  refine KP.out.mono ?_;rintro r w1 ⟨rfl,hb1⟩;have B1:=zH hb1;have d0:=cell_keep hb1 c0;have d1:=cell_keep hb1 c1;have d2:=cell_keep hb1 c2;have d4:=cell_keep hb1 c4;clear hb1 c0 c1 c2 c3 c4;go_wp2_with fail
  go_ret;exact ⟨rfl,B1.out⟩
theorem val_mk {k:Int} {t:ByteArray} {n:Int} {ns:List ByteArray} {ks:List E} (ih:∀ m,m∈ks->OkV m/\OkS m) (ih2:∀ m,m∈ks->∀ g,g∈m.kids->OkV g):OkV (.mk k t n ns ks):=by
 intro w a hw h;have ihv:∀ m,m∈ks->OkV m:=fun m hm=>(ih m hm).1
 by_cases h1:k=1
 ·subst h1;exact val_1 hw h
 by_cases h2:k=2
 ·subst h2;exact val_2 hw h
 by_cases h3:k=3
 ·subst h3;exact val_3 hw h
 by_cases h4:k=4
 ·subst h4;exact val_4 hw h
 by_cases h5:k=5
 ·subst h5;exact val_5 ihv hw h
 by_cases h6:k=6
 ·subst h6;exact val_6 ihv hw h
 by_cases h7:k=7
 ·subst h7;exact val_7 ihv ih2 hw h
 by_cases h8:k=8
 ·subst h8;exact val_8 ih hw h
 exact val_o h1 h2 h3 h4 h5 h6 h7 h8 hw h
end ImplRight
namespace ImplRight
open Go.RowKit
open Strs Tree Soft ImplLike ImplPlain Rights ImplVals TreeTo
open ImplTok (Part)
theorem stmt_mk {k:Int} {t:ByteArray} {n:Int} {ns:List ByteArray} {ks:List E} (ihv:OkV (.mk k t n ns ks)) (ih:∀ m,m∈ks->OkV m):OkS (.mk k t n ns ks):=by
 intro w a hw h;by_cases h9:k=9
 case neg=>
  have KV:=zH (ihv w a hw h);rw[stmt_not9 (show ¬(E.mk k t n ns ks).kind=9 from h9)]
  generalize right (.mk k t n ns ks) false=D at *;obtain ⟨b,o,vn,x,cap,rfl,c0,-⟩:=see2 h;simp only[E.kind] at c0;have b9:(k==9)=false:=by rw[beq_eq_false_iff_ne];exact h9
  clear h hw ihv ih h9;go_enter Tryz.func41,Tryz.ntmps41;go_wp2_with fail
  refine KV.out.mono ?_;rintro r w1 ⟨rfl,hb1⟩;have B1:=zH hb1;clear hb1;go_wp2_with fail
  go_ret;exact ⟨rfl,B1.out⟩
 subst h9;have KP:=zH (plain_below h);obtain ⟨b,o,vn,x,cap,rfl,c0,c1,c2,c3,c4,hm,hx,hk⟩:=see2 h;simp only[E.kind,E.text,E.num,E.names,E.kids] at *;rw[weight] at hw;unfold maxLen at hm;have KV:=fun w' (hb:Below w.heap.size w w')=>zH (vals_any (cap:=cap) ih (by omega) (hk.keep hb) (by unfold maxLen;omega))
 have HR:Hid (∀ P,plain 9 t n ns=P->right (.mk 9 t n ns ks) true=(P&&decide (ks.length=1)&&rights false ks)):=by
  intro P hP;cases P with
  | false=>rw[not_plain hP];rfl
  | true=>rw[right_9 hP];rfl
 have HRR:=zH (HR.out _ rfl);clear h hk ih hx hw HR ihv;generalize right (.mk 9 t n ns ks) true=D at *;generalize plain 9 t n ns=P at *;generalize rights false ks=R at *;generalize ks.length=N at *;cases P with
 | false=>
  have hD:D=false:=by rw[HRR.out];rfl
  subst hD;clear HRR;go_enter Tryz.func41,Tryz.ntmps41;go_wp2_with fail
  refine KP.out.mono ?_;rintro r w1 ⟨rfl,hb1⟩;have B1:=zH hb1;clear hb1;go_wp2_with fail
  go_ret;exact ⟨rfl,B1.out⟩
 | true=>
  by_cases hN:N=1
  ·have hb:((N:Int)==1)=true:=by rw[beq_iff_eq];omega
   have hD:D=R:=by rw[HRR.out,decide_eq_true hN];rfl
   have HN:=zH hN;clear hN;subst hD;clear HRR;go_enter Tryz.func41,Tryz.ntmps41;go_wp2_with fail
   refine KP.out.mono ?_;rintro r w1 ⟨rfl,hb1⟩;have B1:=zH hb1;have d4:=cell_keep hb1 c4;clear hb1;go_wp2_with fail
   refine (KV _ B1.out).out.mono ?_;rintro r w2 ⟨rfl,hb2⟩;have B2:=zH (B1.out.trans (hb2.mono B1.out.size));clear hb2 d4;go_wp2_with fail
   go_ret;exact ⟨rfl,B2.out⟩
  ·have hb:((N:Int)==1)=false:=by rw[beq_eq_false_iff_ne];omega
   have hD:D=false:=by rw[HRR.out,decide_eq_false hN];rfl
   subst hD;clear HRR hN;go_enter Tryz.func41,Tryz.ntmps41;go_wp2_with fail
   refine KP.out.mono ?_;rintro r w1 ⟨rfl,hb1⟩;have B1:=zH hb1;have d4:=cell_keep hb1 c4;clear hb1;go_wp2_with fail
   go_ret;exact ⟨rfl,B1.out⟩
theorem right_any:∀ e,(OkV e/\OkS e)/\∀ g,g∈e.kids->OkV g:=by
 refine ind fun k t n ns ks ih=>?_
 have hv:OkV (.mk k t n ns ks):=val_mk (fun m hm=>(ih m hm).1) (fun m hm=>(ih m hm).2)
 exact ⟨⟨hv,stmt_mk hv (fun m hm=>(ih m hm).1.1)⟩,fun g hg=>(ih g hg).1.1⟩
theorem is_expr {lo:Nat} {e:E} {v:Value} {w:World} (h:Reads lo w e v) (hs:SoftV lo w e v) (hw:weight e<=1048576):
  Calls Tryz.prog 10 #[v] w (Part (isExpr e) w):=by
 obtain ⟨vn,vk,rfl,hn⟩:=h;obtain ⟨_,_,_,_,_,he,hs⟩:=hs;cases he;have hb:Below w.heap.size w (w.alloc (.cells #[.int .i64 e.kind,.string e.text,.int .i64 e.num,vn,vk] 27)):=(zB _ _).alloc (zL _) _;have hnd:=node_box hn hs 27;have K:=zH (ImplMeas.measure_any _ _ e hnd (by have:=size_weight e;omega));have KS:=fun w' (hb:Below (w.alloc (.cells #[.int .i64 e.kind,.string e.text,.int .i64 e.num,vn,vk] 27)).heap.size (w.alloc (.cells #[.int .i64 e.kind,.string e.text,.int .i64 e.num,vn,vk] 27)) w')=>zH ((right_any e).1.2 w' _ hw (hnd.keep hb))
 have HE:Hid (isExpr e=(decide (size e<=300)&&decide (depth e<=25)&&right e true)):=rfl;have HB:=zH hb;unfold Dfs.ext at K;clear hn hs hb hnd hw;generalize isExpr e=D at *;generalize right e true=R at *;generalize size e=sz at *;generalize depth e=dp at *;go_enter Tryz.func10,Tryz.ntmps10;go_wp2_with fail
 refine K.out.mono ?_;rintro r w1 ⟨rfl,hb1⟩;have H1:=zH (HB.out.trans (hb1.mono HB.out.size));have HS1:=zH hb1;clear hb1;by_cases hsz:sz<=300
 case neg=>
  have hD:D=false:=by rw[HE.out,decide_eq_false hsz];rfl
  subst hD;have q1:¬((sz:Int)<=300):=by omega
  clear HE hsz;go_wp2_with fail
  go_ret;exact ⟨rfl,H1.out.alloc H1.out.size _⟩
 have q1:(sz:Int)<=300:=by omega
 by_cases hdp:dp<=25
 case neg=>
  have hD:D=false:=by rw[HE.out,decide_eq_false hdp];simp
  subst hD;have q2:¬((dp:Int)<=25):=by omega
  clear HE hdp hsz;go_wp2_with fail
  go_ret;exact ⟨rfl,H1.out.alloc H1.out.size _⟩
 have q2:(dp:Int)<=25:=by omega
 have hD:D=R:=by rw[HE.out,decide_eq_true hsz,decide_eq_true hdp];rfl
 subst hD;clear HE hdp hsz;go_wp2_with fail
 refine (KS _ (HS1.out.alloc HS1.out.size _)).out.mono ?_;rintro r w2 ⟨rfl,hb2⟩;have H2:=zH ((H1.out.alloc H1.out.size _).trans (hb2.mono (Nat.le_trans H1.out.size (by simp))));clear hb2;go_wp2_with fail
 go_ret;exact ⟨rfl,H2.out⟩
end ImplRight
namespace Print
open Go.RowKit
open Strs Tree Bld Prn Wri TreeTo
def textOf (e : E) : ByteArray := ⟨(if isExpr e = true then flat (px e) else []).toArray⟩
theorem right_of {e : E} (h : isExpr e = true) : right e true = true := by
  unfold isExpr at h
  rw [Bool.and_eq_true] at h
  exact h.2
theorem fresh_st (w : World) : St w w.heap.size [] (w.alloc (.cells #[.pointer none, .slice none 0 0] 72)) :=
  ⟨(zB _ _).alloc (zL _) _, Lib.fresh_isBuilder _ _ w⟩
set_option maxRecDepth 10000 in
set_option maxHeartbeats 4000000 in
theorem format_any {lo : Nat} {e : E} {v : Value} {w : World} (h : Reads lo w e v) (hs : SoftV lo w e v) (hw : weight e <= 1048576) (hM : Strs.Max w) (hlen : isExpr e = true -> (flat (px e)).length <= 140737488355328) :
    Calls Tryz.prog 9 #[v] w fun r w' => r = .returned (.string (textOf e)) /\ Below w.heap.size w w' := by
  obtain ⟨vn, vk, rfl, hn⟩ := h
  obtain ⟨a, p, c, a', p', c', rfl, rfl⟩ := zaq hn
  have hba : Below w.heap.size w (w.alloc (.cells #[.int .i64 e.kind, .string e.text, .int .i64 e.num, .slice a p c, .slice a' p' c'] 27)) := (zB _ _).alloc (zL _) _
  have HA := zH hba
  have HBX := zH (Box.new w #[.int .i64 e.kind, .string e.text, .int .i64 e.num, .slice a p c, .slice a' p' c'] 27 (by decide))
  have hr : Reads lo w e (.agg #[.int .i64 e.kind, .string e.text, .int .i64 e.num, .slice a p c, .slice a' p' c']) := ⟨_, _, rfl, hn⟩
  have KI := zH (ImplRight.is_expr (hr.below hba) (hs.below hba) hw)
  have HN := zH (NodeAt.keep (lo := 0) (Nat.zero_le _) (fun _ _ _ _ hc => hc) _ _ _ (hn.below hba))
  have HMX := zH (hM.keep hba)
  have hri : Hid (isExpr e = true -> right e true = true) := zH right_of
  clear hba hr hs hn hM
  unfold textOf
  have HLE := zH hlen
  clear hlen
  generalize hD : isExpr e = D at *
  clear hD
  cases D with
  | false =>
    go_enter Tryz.func9, Tryz.ntmps9
    go_wp2_with fail
    refine KI.out.mono ?_
    rintro r w1 ⟨rfl, hb1⟩
    have HB1 := zH (HA.out.trans (hb1.mono HA.out.size))
    clear hb1
    go_wp2_with fail
    go_ret
    exact ⟨rfl, HB1.out⟩
  | true =>
    have hrt := hri.out rfl
    have HL := zH (HLE.out rfl)
    have HW := zH (fun (w0 : World) (b : Nat) (hM : Strs.Max w0) => write_tree (w0 := w0) (b := b) hM e true hrt hw)
    clear hrt hri HLE
    have HWP : Hid (∀ (w0 : World) (vn vk : Value), Strs.Max w0 -> NodeAt 0 w0 e vn vk -> Calls Tryz.prog 38 #[.pointer (some ⟨w0.heap.size, 0, none⟩), .agg #[.int .i64 e.kind, .string e.text, .int .i64 e.num, vn, vk], .int .i64 0] (w0.alloc (.cells #[.pointer none, .slice none 0 0] 72)) (Wrote w0 w0.heap.size (flat (px e)) (w0.alloc (.cells #[.pointer none, .slice none 0 0] 72)))) := by
      refine zH fun w0 vn vk hM hn => ?_
      have := HW.out w0 w0.heap.size hM [] 0 _ vn vk (Nat.zero_le _) hn (fresh_st w0) (by rw [part_zero]; simpa using HL.out)
      rw [part_zero, List.nil_append] at this
      exact this
    clear HW HL
    generalize hX : flat (px e) = X at *
    clear hX
    generalize e.kind = ek at *
    generalize e.text = et at *
    generalize e.num = en at *
    go_enter Tryz.func9, Tryz.ntmps9
    go_wp2_with fail
    refine KI.out.mono ?_
    rintro r w1 ⟨rfl, hb1⟩
    have HB1 := zH (HA.out.trans (hb1.mono HA.out.size))
    have HBX1 := zH (HBX.out.below hb1)
    have HW1 := zH (HWP.out w1 _ _ (HMX.out.keep hb1) (HN.out.below hb1))
    obtain ⟨f0, f1, f2, f3, f4⟩ := box5 (HBX1.out.below ((zB _ _).alloc (zL _) (.cells #[.pointer none, .slice none 0 0] 72)))
    clear hb1 HWP
    go_wp2_with fail
    refine HW1.out.mono ?_
    rintro r w2 ⟨rfl, hs2, hf2⟩
    have HB2 := zH (HB1.out.trans (hs2.base.mono HB1.out.size))
    have KS := zH (Any.Builder_String_any (ρ := Shelf.lays156_ren) { Shelf.lays156 with } Shelf.extra156 w1.heap.size w1.heap.size X w2 hs2.bd hs2.base.size)
    have hw12 := hs2.base.size
    clear hs2 hf2 f0 f1 f2 f3 f4
    go_wp2_with fail
    refine KS.out.mono ?_
    rintro r w3 ⟨rfl, hb3⟩
    have HB3 := zH (HB2.out.trans (hb3.mono HB1.out.size))
    clear hb3
    go_wp2_with fail
    go_ret
    exact ⟨rfl, HB3.out⟩
end Print
end Go.Proofs.YtbigfeblomfflaaGreatDoor
