/- Parts QNf QNg. -/
import Derived.Test.YtcmlnemokckbdaaGreatDoorN45
set_option maxRecDepth 20000
set_option maxHeartbeats 8000000
namespace Go.Proofs.YtcmlnemokckbdaaGreatDoor.L8.Sm
open Go.ChangeShapes Go.WideShapes Go.ChangeAt Go.RowKit
open YtcmlnemokckbdaaGreatDoor.L8.Op YtcmlnemokckbdaaGreatDoor.L8.So
section
variable {w:World} {q:Nat} {ps:List Bk} {T:Nat->Prop} {M:Ma}
structure Dz (W:World) (q n:Nat) (o:O) (f g:Nat):Prop where
 d0:W.cell? ⟨q,1+o.op.toNat * 2,none⟩=some (.func (.func f) #[] #[])
 d1:W.cell? ⟨q,1+o.op.toNat * 2+1,none⟩=some (.func (.func g) #[] #[])
 c0:W.cell? ⟨n,0,none⟩=some (.int .i8 o.op)
 c1:W.cell? ⟨n,1,none⟩=some (.int .u8 o.d)
 c2:W.cell? ⟨n,2,none⟩=some (.int .u8 o.a)
 c3:W.cell? ⟨n,3,none⟩=some (.int .u8 o.b)
 c4:W.cell? ⟨n,4,none⟩=some (.int .i64 o.im)
theorem dz_new (h:MR w q ps T M) {o:O} (ho:OkM o) {W:World} (hb:Below (w.alloc (.cells #[.int .i8 o.op,.int .u8 o.d,.int .u8 o.a,.int .u8 o.b,.int .i64 o.im] 60)).heap.size (w.alloc (.cells #[.int .i8 o.op,.int .u8 o.d,.int .u8 o.a,.int .u8 o.b,.int .i64 o.im] 60)) W):Dz W q w.heap.size o (valN o.op.toNat) (landN o.op.toNat):=by
 obtain ⟨a1,hb0,hz⟩:=one_new w _ _ hb;obtain ⟨h1,h2⟩:=(h.up hb0).deeds ho;exact ⟨h1,h2,a1.c 0 _ rfl,a1.c 1 _ rfl,a1.c 2 _ rfl,a1.c 3 _ rfl,a1.c 4 _ rfl⟩
theorem Dz.drew {W:World} {q n:Nat} {o:O} {f g:Nat} (h:Dz W q n o f g):Dz W.drew q n o f g:=⟨h.d0,h.d1,h.c0,h.c1,h.c2,h.c3,h.c4⟩
theorem Dz.six {W:World} {q n:Nat} {o:O} {f g:Nat} (h:Dz W q n o f g):W.cell? ⟨q,1+o.op.toNat * 2+1,none⟩=some (.func (.func g) #[] #[])/\W.cell? ⟨n,0,none⟩=some (.int .i8 o.op)/\W.cell? ⟨n,1,none⟩=some (.int .u8 o.d)/\W.cell? ⟨n,2,none⟩=some (.int .u8 o.a)/\W.cell? ⟨n,3,none⟩=some (.int .u8 o.b)/\W.cell? ⟨n,4,none⟩=some (.int .i64 o.im):=⟨h.d1,h.c0,h.c1,h.c2,h.c3,h.c4⟩
theorem Dz.land {X w2:World} {q n:Nat} {o:O} {f g:Nat} {T T':Nat->Prop} (h:Dz X.drew q n o f g) (hn:n<X.heap.size) (hT:¬ T n) (htn:Tn X.drew T w2 T') (hd:w2.cell? ⟨q,1+o.op.toNat * 2,none⟩=some (fnV f)/\w2.cell? ⟨q,1+o.op.toNat * 2+1,none⟩=some (fnV g)):Dz w2 q n o f g:=by
 have c:=fun j=>htn.f.cell (b:=n) hn hT j;exact ⟨hd.1,hd.2,(c _).trans h.c0,(c _).trans h.c1,(c _).trans h.c2,(c _).trans h.c3,(c _).trans h.c4⟩
theorem MM.olt (h:MM w q ps T M):(M.o:Int)<=8796093022208:=by
 obtain ⟨ba,bc,po,pc,hM,hP,hR,hT⟩:=h.mr.ex;have hb:=h.inv.b;obtain ⟨b,f,-,-,-,hx⟩:=hP.is (by omega);obtain ⟨p,-,h2,-⟩:=hx M.b hb;have ho:=h.inv.o;rw [listM_at hb] at ho;have h3:=h2.o.len;have h4:=h2.b.len;unfold lst at ho
 split at ho <;> omega
theorem MR.setO {N:Ma} {k:Nat} (h:MR w q ps T N):MR (w.setCell ⟨q,331,none⟩ (.int .i64 ((k:Int)+1))) q ps T { N with o:=k+1 }:=by
 obtain ⟨ba,bc,po,pc,hM,hP,hR,hT⟩:=h.ex
 have:=hM.set_o (k+1)
 exact (mr_one hP hR hT h.tq h.tl (M':={ N with o:=k+1 }) (by simpa using this) ((Fr.refl (One q) w).setCell (.inr rfl) _ _) rfl).1
theorem deed_pairs {o:O} (ho:OkM o):(valN o.op.toNat = 70/\landN o.op.toNat = 71)\/(valN o.op.toNat = 81/\landN o.op.toNat = 71)\/(valN o.op.toNat = 72/\landN o.op.toNat = 71)\/(valN o.op.toNat = 73/\landN o.op.toNat = 74)\/(valN o.op.toNat = 75/\landN o.op.toNat = 76):=by
 have hb:=ho.op;obtain ⟨k,hk⟩:∃ k:Nat,k=o.op.toNat:=⟨_,rfl⟩;rw [<- hk];have h1:1<=k/\k<=17:=by omega
 clear hk
 have:k=1\/(2<=k/\k<=14)\/k=15\/k=16\/k=17:=by omega
 rcases this with rfl|h|rfl|rfl|rfl
 ·exact .inl ⟨rfl,rfl⟩
 ·right;left
  unfold valN landN;rw [if_neg (by omega),if_neg (by omega),if_neg (by omega),if_neg (by omega),if_neg (by omega),if_neg (by omega)];exact ⟨rfl,rfl⟩
 ·exact .inr (.inr (.inl ⟨rfl,rfl⟩))
 ·exact .inr (.inr (.inr (.inl ⟨rfl,rfl⟩)))
 ·exact .inr (.inr (.inr (.inr ⟨rfl,rfl⟩)))
theorem doOp_no (o:O) (h:MM w q ps T M) (ho:OkM o) (ht:trapO o M=false):Calls Tryz.prog 114 #[ptr q,o.val,.bool false] w fun e w'=>e=.returned (.bool false)/\Below w.heap.size w w':=by
 have HV:Hid (∀ W,Below w.heap.size w W->Calls Tryz.prog (valN o.op.toNat) #[ptr q,o.val] W fun e w'=>e=.returned (.int .i64 (valO o M))/\Below W.heap.size W w'):=fun W hb=>val_any o (h.up hb) ho ht;have HD:Hid (∀ W,Below (w.alloc (.cells #[.int .i8 o.op,.int .u8 o.d,.int .u8 o.a,.int .u8 o.b,.int .i64 o.im] 60)).heap.size (w.alloc (.cells #[.int .i8 o.op,.int .u8 o.d,.int .u8 o.a,.int .u8 o.b,.int .i64 o.im] 60)) W->Dz W q w.heap.size o (valN o.op.toNat) (landN o.op.toNat)):=fun W hb=>dz_new (W:=W) h.mr ho hb;have hq:=h.mr.tl q h.mr.tq;have b0:=ho.op.1;have b1:o.op<18:=by have:=ho.op;omega
 have b2:0<=o.op:=by omega
 have hfg:=deed_pairs ho;clear h ho ht;generalize valN o.op.toNat = f at *;generalize landN o.op.toNat = g at *;generalize valO o M=v at *;rcases hfg with ⟨rfl,rfl⟩|⟨rfl,rfl⟩|⟨rfl,rfl⟩|⟨rfl,rfl⟩|⟨rfl,rfl⟩
 ·go_enter Tryz.func114,Tryz.ntmps114;go_wp2_with fail
  obtain ⟨V,hV⟩:∃ V,V=w.alloc (.cells #[.int .i8 o.op,.int .u8 o.d,.int .u8 o.a,.int .u8 o.b,.int .i64 o.im] 60):=⟨_,rfl⟩;rw [<- hV] at HD ⊢;have HB:Hid (Below w.heap.size w V):=by rw [hV];exact (Below.refl _ _).alloc (Nat.le_refl _) _
  clear hV;have e0:∀ z:Wd (Below V.heap.size V),z.w.cell? ⟨q,1+o.op.toNat * 2,none⟩=some (.func (.func 70) #[] #[]):=fun z=>(HD.out z.w z.ok).d0;have e1:∀ z:Wd (Below V.heap.size V),z.w.cell? ⟨w.heap.size,0,none⟩=some (.int .i8 o.op):=fun z=>(HD.out z.w z.ok).c0;have e2:∀ z:Wd (Below V.heap.size V),z.w.cell? ⟨w.heap.size,1,none⟩=some (.int .u8 o.d):=fun z=>(HD.out z.w z.ok).c1;have e3:∀ z:Wd (Below V.heap.size V),z.w.cell? ⟨w.heap.size,2,none⟩=some (.int .u8 o.a):=fun z=>(HD.out z.w z.ok).c2;have e4:∀ z:Wd (Below V.heap.size V),z.w.cell? ⟨w.heap.size,3,none⟩=some (.int .u8 o.b):=fun z=>(HD.out z.w z.ok).c3;have e5:∀ z:Wd (Below V.heap.size V),z.w.cell? ⟨w.heap.size,4,none⟩=some (.int .i64 o.im):=fun z=>(HD.out z.w z.ok).c4
  haveI inst:Nonempty (Wd (Below V.heap.size V)):=⟨⟨V,Below.refl _ _⟩⟩
  have HX:Hid (∀ z:Wd (Below V.heap.size V),Below w.heap.size w z.w):=fun z=>HB.out.trans (z.ok.mono HB.out.size);refine wp_region_in (Below V.heap.size V) (by kernel_rfl) (by kernel_rfl) ((Below.refl _ _).drew) ?_
  repeat (first|go_big_quiet_step ((go_at_call 70;exact calls_in (Nat.le_refl _) _ (HV.out _ (HX.out _)))))
  refine wpQuiet_nil ?_;rintro _ ⟨x,rfl⟩;have hx:=HX.out x;clear e0 e1 e2 e3 e4 e5;go_wp2_with fail
  go_ret
  exact ⟨rfl,hx⟩
 ·go_enter Tryz.func114,Tryz.ntmps114;go_wp2_with fail
  obtain ⟨V,hV⟩:∃ V,V=w.alloc (.cells #[.int .i8 o.op,.int .u8 o.d,.int .u8 o.a,.int .u8 o.b,.int .i64 o.im] 60):=⟨_,rfl⟩;rw [<- hV] at HD ⊢;have HB:Hid (Below w.heap.size w V):=by rw [hV];exact (Below.refl _ _).alloc (Nat.le_refl _) _
  clear hV;have e0:∀ z:Wd (Below V.heap.size V),z.w.cell? ⟨q,1+o.op.toNat * 2,none⟩=some (.func (.func 81) #[] #[]):=fun z=>(HD.out z.w z.ok).d0;have e1:∀ z:Wd (Below V.heap.size V),z.w.cell? ⟨w.heap.size,0,none⟩=some (.int .i8 o.op):=fun z=>(HD.out z.w z.ok).c0;have e2:∀ z:Wd (Below V.heap.size V),z.w.cell? ⟨w.heap.size,1,none⟩=some (.int .u8 o.d):=fun z=>(HD.out z.w z.ok).c1;have e3:∀ z:Wd (Below V.heap.size V),z.w.cell? ⟨w.heap.size,2,none⟩=some (.int .u8 o.a):=fun z=>(HD.out z.w z.ok).c2;have e4:∀ z:Wd (Below V.heap.size V),z.w.cell? ⟨w.heap.size,3,none⟩=some (.int .u8 o.b):=fun z=>(HD.out z.w z.ok).c3;have e5:∀ z:Wd (Below V.heap.size V),z.w.cell? ⟨w.heap.size,4,none⟩=some (.int .i64 o.im):=fun z=>(HD.out z.w z.ok).c4
  haveI inst:Nonempty (Wd (Below V.heap.size V)):=⟨⟨V,Below.refl _ _⟩⟩
  have HX:Hid (∀ z:Wd (Below V.heap.size V),Below w.heap.size w z.w):=fun z=>HB.out.trans (z.ok.mono HB.out.size);refine wp_region_in (Below V.heap.size V) (by kernel_rfl) (by kernel_rfl) ((Below.refl _ _).drew) ?_
  repeat (first|go_big_quiet_step ((go_at_call 81;exact calls_in (Nat.le_refl _) _ (HV.out _ (HX.out _)))))
  refine wpQuiet_nil ?_;rintro _ ⟨x,rfl⟩;have hx:=HX.out x;clear e0 e1 e2 e3 e4 e5;go_wp2_with fail
  go_ret
  exact ⟨rfl,hx⟩
 ·go_enter Tryz.func114,Tryz.ntmps114;go_wp2_with fail
  obtain ⟨V,hV⟩:∃ V,V=w.alloc (.cells #[.int .i8 o.op,.int .u8 o.d,.int .u8 o.a,.int .u8 o.b,.int .i64 o.im] 60):=⟨_,rfl⟩;rw [<- hV] at HD ⊢;have HB:Hid (Below w.heap.size w V):=by rw [hV];exact (Below.refl _ _).alloc (Nat.le_refl _) _
  clear hV;have e0:∀ z:Wd (Below V.heap.size V),z.w.cell? ⟨q,1+o.op.toNat * 2,none⟩=some (.func (.func 72) #[] #[]):=fun z=>(HD.out z.w z.ok).d0;have e1:∀ z:Wd (Below V.heap.size V),z.w.cell? ⟨w.heap.size,0,none⟩=some (.int .i8 o.op):=fun z=>(HD.out z.w z.ok).c0;have e2:∀ z:Wd (Below V.heap.size V),z.w.cell? ⟨w.heap.size,1,none⟩=some (.int .u8 o.d):=fun z=>(HD.out z.w z.ok).c1;have e3:∀ z:Wd (Below V.heap.size V),z.w.cell? ⟨w.heap.size,2,none⟩=some (.int .u8 o.a):=fun z=>(HD.out z.w z.ok).c2;have e4:∀ z:Wd (Below V.heap.size V),z.w.cell? ⟨w.heap.size,3,none⟩=some (.int .u8 o.b):=fun z=>(HD.out z.w z.ok).c3;have e5:∀ z:Wd (Below V.heap.size V),z.w.cell? ⟨w.heap.size,4,none⟩=some (.int .i64 o.im):=fun z=>(HD.out z.w z.ok).c4
  haveI inst:Nonempty (Wd (Below V.heap.size V)):=⟨⟨V,Below.refl _ _⟩⟩
  have HX:Hid (∀ z:Wd (Below V.heap.size V),Below w.heap.size w z.w):=fun z=>HB.out.trans (z.ok.mono HB.out.size);refine wp_region_in (Below V.heap.size V) (by kernel_rfl) (by kernel_rfl) ((Below.refl _ _).drew) ?_
  repeat (first|go_big_quiet_step ((go_at_call 72;exact calls_in (Nat.le_refl _) _ (HV.out _ (HX.out _)))))
  refine wpQuiet_nil ?_;rintro _ ⟨x,rfl⟩;have hx:=HX.out x;clear e0 e1 e2 e3 e4 e5;go_wp2_with fail
  go_ret
  exact ⟨rfl,hx⟩
 ·go_enter Tryz.func114,Tryz.ntmps114;go_wp2_with fail
  obtain ⟨V,hV⟩:∃ V,V=w.alloc (.cells #[.int .i8 o.op,.int .u8 o.d,.int .u8 o.a,.int .u8 o.b,.int .i64 o.im] 60):=⟨_,rfl⟩;rw [<- hV] at HD ⊢;have HB:Hid (Below w.heap.size w V):=by rw [hV];exact (Below.refl _ _).alloc (Nat.le_refl _) _
  clear hV;have e0:∀ z:Wd (Below V.heap.size V),z.w.cell? ⟨q,1+o.op.toNat * 2,none⟩=some (.func (.func 73) #[] #[]):=fun z=>(HD.out z.w z.ok).d0;have e1:∀ z:Wd (Below V.heap.size V),z.w.cell? ⟨w.heap.size,0,none⟩=some (.int .i8 o.op):=fun z=>(HD.out z.w z.ok).c0;have e2:∀ z:Wd (Below V.heap.size V),z.w.cell? ⟨w.heap.size,1,none⟩=some (.int .u8 o.d):=fun z=>(HD.out z.w z.ok).c1;have e3:∀ z:Wd (Below V.heap.size V),z.w.cell? ⟨w.heap.size,2,none⟩=some (.int .u8 o.a):=fun z=>(HD.out z.w z.ok).c2;have e4:∀ z:Wd (Below V.heap.size V),z.w.cell? ⟨w.heap.size,3,none⟩=some (.int .u8 o.b):=fun z=>(HD.out z.w z.ok).c3;have e5:∀ z:Wd (Below V.heap.size V),z.w.cell? ⟨w.heap.size,4,none⟩=some (.int .i64 o.im):=fun z=>(HD.out z.w z.ok).c4
  haveI inst:Nonempty (Wd (Below V.heap.size V)):=⟨⟨V,Below.refl _ _⟩⟩
  have HX:Hid (∀ z:Wd (Below V.heap.size V),Below w.heap.size w z.w):=fun z=>HB.out.trans (z.ok.mono HB.out.size);refine wp_region_in (Below V.heap.size V) (by kernel_rfl) (by kernel_rfl) ((Below.refl _ _).drew) ?_
  repeat (first|go_big_quiet_step ((go_at_call 73;exact calls_in (Nat.le_refl _) _ (HV.out _ (HX.out _)))))
  refine wpQuiet_nil ?_;rintro _ ⟨x,rfl⟩;have hx:=HX.out x;clear e0 e1 e2 e3 e4 e5;go_wp2_with fail
  go_ret
  exact ⟨rfl,hx⟩
 ·go_enter Tryz.func114,Tryz.ntmps114;go_wp2_with fail
  obtain ⟨V,hV⟩:∃ V,V=w.alloc (.cells #[.int .i8 o.op,.int .u8 o.d,.int .u8 o.a,.int .u8 o.b,.int .i64 o.im] 60):=⟨_,rfl⟩;rw [<- hV] at HD ⊢;have HB:Hid (Below w.heap.size w V):=by rw [hV];exact (Below.refl _ _).alloc (Nat.le_refl _) _
  clear hV;have e0:∀ z:Wd (Below V.heap.size V),z.w.cell? ⟨q,1+o.op.toNat * 2,none⟩=some (.func (.func 75) #[] #[]):=fun z=>(HD.out z.w z.ok).d0;have e1:∀ z:Wd (Below V.heap.size V),z.w.cell? ⟨w.heap.size,0,none⟩=some (.int .i8 o.op):=fun z=>(HD.out z.w z.ok).c0;have e2:∀ z:Wd (Below V.heap.size V),z.w.cell? ⟨w.heap.size,1,none⟩=some (.int .u8 o.d):=fun z=>(HD.out z.w z.ok).c1;have e3:∀ z:Wd (Below V.heap.size V),z.w.cell? ⟨w.heap.size,2,none⟩=some (.int .u8 o.a):=fun z=>(HD.out z.w z.ok).c2;have e4:∀ z:Wd (Below V.heap.size V),z.w.cell? ⟨w.heap.size,3,none⟩=some (.int .u8 o.b):=fun z=>(HD.out z.w z.ok).c3;have e5:∀ z:Wd (Below V.heap.size V),z.w.cell? ⟨w.heap.size,4,none⟩=some (.int .i64 o.im):=fun z=>(HD.out z.w z.ok).c4
  haveI inst:Nonempty (Wd (Below V.heap.size V)):=⟨⟨V,Below.refl _ _⟩⟩
  have HX:Hid (∀ z:Wd (Below V.heap.size V),Below w.heap.size w z.w):=fun z=>HB.out.trans (z.ok.mono HB.out.size);refine wp_region_in (Below V.heap.size V) (by kernel_rfl) (by kernel_rfl) ((Below.refl _ _).drew) ?_
  repeat (first|go_big_quiet_step ((go_at_call 75;exact calls_in (Nat.le_refl _) _ (HV.out _ (HX.out _)))))
  refine wpQuiet_nil ?_;rintro _ ⟨x,rfl⟩;have hx:=HX.out x;clear e0 e1 e2 e3 e4 e5;go_wp2_with fail
  go_ret
  exact ⟨rfl,hx⟩
theorem doOp_yes (o:O) (h:MM w q ps T M) (ho:OkM o) (ht:trapO o M=false) (hl:M.pr.length<1099511627776):Calls Tryz.prog 114 #[ptr q,o.val,.bool true] w fun e w'=>e=.returned (.bool true)/\∃ T',MR w' q ps T' (opM o M)/\Tn w T w' T':=by
 have HV:Hid (∀ W,Below w.heap.size w W->Calls Tryz.prog (valN o.op.toNat) #[ptr q,o.val] W fun e w'=>e=.returned (.int .i64 (valO o M))/\Below W.heap.size W w'):=fun W hb=>val_any o (h.up hb) ho ht;have HD:Hid (∀ W,Below (w.alloc (.cells #[.int .i8 o.op,.int .u8 o.d,.int .u8 o.a,.int .u8 o.b,.int .i64 o.im] 60)).heap.size (w.alloc (.cells #[.int .i8 o.op,.int .u8 o.d,.int .u8 o.a,.int .u8 o.b,.int .i64 o.im] 60)) W->Dz W q w.heap.size o (valN o.op.toNat) (landN o.op.toNat)):=fun W hb=>dz_new (W:=W) h.mr ho hb;have HQ:Hid (∀ W,Below w.heap.size w W->Calls Tryz.prog (landN o.op.toNat) #[ptr q,o.val,.int .i64 (valO o M)] W (LandPost W q ps T (landO o (valO o M) M))):=fun W hb=>land_any o (valO o M) (h.mr.up hb) ho hl;have HTl:Hid (∀ k,¬ (k<w.heap.size)->¬ T k):=fun k hk hT=>hk (h.mr.tl k hT);have HK:Hid (∀ W T' M',MR W q ps T' M'->W.cell? ⟨q,1+o.op.toNat * 2,none⟩=some (fnV (valN o.op.toNat))/\W.cell? ⟨q,1+o.op.toNat * 2+1,none⟩=some (fnV (landN o.op.toNat))):=fun W T' M' hm=>hm.deeds ho;have hlo:(landO o (valO o M) M).o=M.o:=by unfold landO;(repeat' split) <;> rfl
 have hmo:(M.o:Int)<=8796093022208:=h.olt;have HOp:Hid (opM o M = { landO o (valO o M) M with o:=M.o+1 }):=rfl;rw [HOp.out];have HLo:Hid ((landO o (valO o M) M).o=M.o):=hlo;clear hlo;have HQt:True:=trivial;have hq:=h.mr.tl q h.mr.tq;have b0:=ho.op.1;have b1:o.op<18:=by have:=ho.op;omega
 have b2:0<=o.op:=by omega
 have hfg:=deed_pairs ho;clear h ho ht HQt;generalize valN o.op.toNat = f at *;generalize landN o.op.toNat = g at *;generalize valO o M=v at *;rcases hfg with ⟨rfl,rfl⟩|⟨rfl,rfl⟩|⟨rfl,rfl⟩|⟨rfl,rfl⟩|⟨rfl,rfl⟩
 ·go_enter Tryz.func114,Tryz.ntmps114;go_wp2_with fail
  obtain ⟨V,hV⟩:∃ V,V=w.alloc (.cells #[.int .i8 o.op,.int .u8 o.d,.int .u8 o.a,.int .u8 o.b,.int .i64 o.im] 60):=⟨_,rfl⟩;rw [<- hV] at HD ⊢;have HB:Hid (Below w.heap.size w V):=by rw [hV];exact (Below.refl _ _).alloc (Nat.le_refl _) _
  have HVs:Hid (w.heap.size<V.heap.size):=by rw [hV];show w.heap.size<(World.alloc _ _).heap.size;simp
  clear hV;have e0:∀ z:Wd (Below V.heap.size V),z.w.cell? ⟨q,1+o.op.toNat * 2,none⟩=some (.func (.func 70) #[] #[]):=fun z=>(HD.out z.w z.ok).d0;have e1:∀ z:Wd (Below V.heap.size V),z.w.cell? ⟨w.heap.size,0,none⟩=some (.int .i8 o.op):=fun z=>(HD.out z.w z.ok).c0;have e2:∀ z:Wd (Below V.heap.size V),z.w.cell? ⟨w.heap.size,1,none⟩=some (.int .u8 o.d):=fun z=>(HD.out z.w z.ok).c1;have e3:∀ z:Wd (Below V.heap.size V),z.w.cell? ⟨w.heap.size,2,none⟩=some (.int .u8 o.a):=fun z=>(HD.out z.w z.ok).c2;have e4:∀ z:Wd (Below V.heap.size V),z.w.cell? ⟨w.heap.size,3,none⟩=some (.int .u8 o.b):=fun z=>(HD.out z.w z.ok).c3;have e5:∀ z:Wd (Below V.heap.size V),z.w.cell? ⟨w.heap.size,4,none⟩=some (.int .i64 o.im):=fun z=>(HD.out z.w z.ok).c4
  haveI inst:Nonempty (Wd (Below V.heap.size V)):=⟨⟨V,Below.refl _ _⟩⟩
  have HX:Hid (∀ z:Wd (Below V.heap.size V),Below w.heap.size w z.w):=fun z=>HB.out.trans (z.ok.mono HB.out.size);refine wp_region_in (Below V.heap.size V) (by kernel_rfl) (by kernel_rfl) ((Below.refl _ _).drew) ?_
  repeat (first|go_big_quiet_step ((go_at_call 70;exact calls_in (Nat.le_refl _) _ (HV.out _ (HX.out _)))))
  refine wpQuiet_nil ?_;rintro _ ⟨x,rfl⟩;have hx:=HX.out x;have HS:Hid (Dz x.w.drew q w.heap.size o _ 71):=(HD.out x.w x.ok).drew;have HL:Hid (∀ W,Below x.w.heap.size x.w W->Calls Tryz.prog 71 #[ptr q,o.val,.int .i64 v] W (LandPost W q ps T (landO o v M))):=fun W hb=>HQ.out W (hx.trans (hb.mono hx.size));have HN:Hid (w.heap.size<x.w.heap.size):=Nat.lt_of_lt_of_le HVs.out x.ok.size;have HE:Hid (Below w.heap.size w x.w):=hx;clear e0 e1 e2 e3 e4 e5 hx HD HV HX HQ HVs;generalize x.w=X at *;go_wp2_with fail
  go_region_held3 (fun w'=>w'.cell? ⟨q,1+o.op.toNat * 2+1,none⟩=some (.func (.func 71) #[] #[])/\w'.cell? ⟨w.heap.size,0,none⟩=some (.int .i8 o.op)/\w'.cell? ⟨w.heap.size,1,none⟩=some (.int .u8 o.d)/\w'.cell? ⟨w.heap.size,2,none⟩=some (.int .u8 o.a)/\w'.cell? ⟨w.heap.size,3,none⟩=some (.int .u8 o.b)/\w'.cell? ⟨w.heap.size,4,none⟩=some (.int .i64 o.im))
   (first|exact HS.out.six)
   (first|(go_at_call 71;refine Calls.mono (HL.out _ (drew_up _)) ?_;rintro e w2 ⟨rfl,T',hm,htn⟩;have HS:Hid (Dz w2 q w.heap.size o _ 71):=(HS.out.land HN.out (HTl.out _ (Nat.lt_irrefl _)) htn (HK.out _ _ _ hm));have HR:Hid (MR w2 q ps T' (landO o v M)/\Tn X T w2 T'):=⟨hm,Tn.trans (Tn.of (drew_up X)) htn⟩;obtain ⟨ba,bc,po,pc,hA⟩:=hm.mat;have a2:=hA.o;have f2:=hA.fz 331;have q2:=hA.lt;rw [HLo.out] at a2;clear hA hm htn HL))
  go_wp2_with fail
  go_ret
  obtain ⟨hm,htn⟩:=HR.out;refine ⟨rfl,T',hm.setO,(Tn.of HE.out).trans (htn.trans ⟨(Fr.refl T' w2).setCell (.inr hm.tq) _ _,fun _ h=>.inl h⟩)⟩
 ·go_enter Tryz.func114,Tryz.ntmps114;go_wp2_with fail
  obtain ⟨V,hV⟩:∃ V,V=w.alloc (.cells #[.int .i8 o.op,.int .u8 o.d,.int .u8 o.a,.int .u8 o.b,.int .i64 o.im] 60):=⟨_,rfl⟩;rw [<- hV] at HD ⊢;have HB:Hid (Below w.heap.size w V):=by rw [hV];exact (Below.refl _ _).alloc (Nat.le_refl _) _
  have HVs:Hid (w.heap.size<V.heap.size):=by rw [hV];show w.heap.size<(World.alloc _ _).heap.size;simp
  clear hV;have e0:∀ z:Wd (Below V.heap.size V),z.w.cell? ⟨q,1+o.op.toNat * 2,none⟩=some (.func (.func 81) #[] #[]):=fun z=>(HD.out z.w z.ok).d0;have e1:∀ z:Wd (Below V.heap.size V),z.w.cell? ⟨w.heap.size,0,none⟩=some (.int .i8 o.op):=fun z=>(HD.out z.w z.ok).c0;have e2:∀ z:Wd (Below V.heap.size V),z.w.cell? ⟨w.heap.size,1,none⟩=some (.int .u8 o.d):=fun z=>(HD.out z.w z.ok).c1;have e3:∀ z:Wd (Below V.heap.size V),z.w.cell? ⟨w.heap.size,2,none⟩=some (.int .u8 o.a):=fun z=>(HD.out z.w z.ok).c2;have e4:∀ z:Wd (Below V.heap.size V),z.w.cell? ⟨w.heap.size,3,none⟩=some (.int .u8 o.b):=fun z=>(HD.out z.w z.ok).c3;have e5:∀ z:Wd (Below V.heap.size V),z.w.cell? ⟨w.heap.size,4,none⟩=some (.int .i64 o.im):=fun z=>(HD.out z.w z.ok).c4
  haveI inst:Nonempty (Wd (Below V.heap.size V)):=⟨⟨V,Below.refl _ _⟩⟩
  have HX:Hid (∀ z:Wd (Below V.heap.size V),Below w.heap.size w z.w):=fun z=>HB.out.trans (z.ok.mono HB.out.size);refine wp_region_in (Below V.heap.size V) (by kernel_rfl) (by kernel_rfl) ((Below.refl _ _).drew) ?_
  repeat (first|go_big_quiet_step ((go_at_call 81;exact calls_in (Nat.le_refl _) _ (HV.out _ (HX.out _)))))
  refine wpQuiet_nil ?_;rintro _ ⟨x,rfl⟩;have hx:=HX.out x;have HS:Hid (Dz x.w.drew q w.heap.size o _ 71):=(HD.out x.w x.ok).drew;have HL:Hid (∀ W,Below x.w.heap.size x.w W->Calls Tryz.prog 71 #[ptr q,o.val,.int .i64 v] W (LandPost W q ps T (landO o v M))):=fun W hb=>HQ.out W (hx.trans (hb.mono hx.size));have HN:Hid (w.heap.size<x.w.heap.size):=Nat.lt_of_lt_of_le HVs.out x.ok.size;have HE:Hid (Below w.heap.size w x.w):=hx;clear e0 e1 e2 e3 e4 e5 hx HD HV HX HQ HVs;generalize x.w=X at *;go_wp2_with fail
  go_region_held3 (fun w'=>w'.cell? ⟨q,1+o.op.toNat * 2+1,none⟩=some (.func (.func 71) #[] #[])/\w'.cell? ⟨w.heap.size,0,none⟩=some (.int .i8 o.op)/\w'.cell? ⟨w.heap.size,1,none⟩=some (.int .u8 o.d)/\w'.cell? ⟨w.heap.size,2,none⟩=some (.int .u8 o.a)/\w'.cell? ⟨w.heap.size,3,none⟩=some (.int .u8 o.b)/\w'.cell? ⟨w.heap.size,4,none⟩=some (.int .i64 o.im))
   (first|exact HS.out.six)
   (first|(go_at_call 71;refine Calls.mono (HL.out _ (drew_up _)) ?_;rintro e w2 ⟨rfl,T',hm,htn⟩;have HS:Hid (Dz w2 q w.heap.size o _ 71):=(HS.out.land HN.out (HTl.out _ (Nat.lt_irrefl _)) htn (HK.out _ _ _ hm));have HR:Hid (MR w2 q ps T' (landO o v M)/\Tn X T w2 T'):=⟨hm,Tn.trans (Tn.of (drew_up X)) htn⟩;obtain ⟨ba,bc,po,pc,hA⟩:=hm.mat;have a2:=hA.o;have f2:=hA.fz 331;have q2:=hA.lt;rw [HLo.out] at a2;clear hA hm htn HL))
  go_wp2_with fail
  go_ret
  obtain ⟨hm,htn⟩:=HR.out;refine ⟨rfl,T',hm.setO,(Tn.of HE.out).trans (htn.trans ⟨(Fr.refl T' w2).setCell (.inr hm.tq) _ _,fun _ h=>.inl h⟩)⟩
 ·go_enter Tryz.func114,Tryz.ntmps114;go_wp2_with fail
  obtain ⟨V,hV⟩:∃ V,V=w.alloc (.cells #[.int .i8 o.op,.int .u8 o.d,.int .u8 o.a,.int .u8 o.b,.int .i64 o.im] 60):=⟨_,rfl⟩;rw [<- hV] at HD ⊢;have HB:Hid (Below w.heap.size w V):=by rw [hV];exact (Below.refl _ _).alloc (Nat.le_refl _) _
  have HVs:Hid (w.heap.size<V.heap.size):=by rw [hV];show w.heap.size<(World.alloc _ _).heap.size;simp
  clear hV;have e0:∀ z:Wd (Below V.heap.size V),z.w.cell? ⟨q,1+o.op.toNat * 2,none⟩=some (.func (.func 72) #[] #[]):=fun z=>(HD.out z.w z.ok).d0;have e1:∀ z:Wd (Below V.heap.size V),z.w.cell? ⟨w.heap.size,0,none⟩=some (.int .i8 o.op):=fun z=>(HD.out z.w z.ok).c0;have e2:∀ z:Wd (Below V.heap.size V),z.w.cell? ⟨w.heap.size,1,none⟩=some (.int .u8 o.d):=fun z=>(HD.out z.w z.ok).c1;have e3:∀ z:Wd (Below V.heap.size V),z.w.cell? ⟨w.heap.size,2,none⟩=some (.int .u8 o.a):=fun z=>(HD.out z.w z.ok).c2;have e4:∀ z:Wd (Below V.heap.size V),z.w.cell? ⟨w.heap.size,3,none⟩=some (.int .u8 o.b):=fun z=>(HD.out z.w z.ok).c3;have e5:∀ z:Wd (Below V.heap.size V),z.w.cell? ⟨w.heap.size,4,none⟩=some (.int .i64 o.im):=fun z=>(HD.out z.w z.ok).c4
  haveI inst:Nonempty (Wd (Below V.heap.size V)):=⟨⟨V,Below.refl _ _⟩⟩
  have HX:Hid (∀ z:Wd (Below V.heap.size V),Below w.heap.size w z.w):=fun z=>HB.out.trans (z.ok.mono HB.out.size);refine wp_region_in (Below V.heap.size V) (by kernel_rfl) (by kernel_rfl) ((Below.refl _ _).drew) ?_
  repeat (first|go_big_quiet_step ((go_at_call 72;exact calls_in (Nat.le_refl _) _ (HV.out _ (HX.out _)))))
  refine wpQuiet_nil ?_;rintro _ ⟨x,rfl⟩;have hx:=HX.out x;have HS:Hid (Dz x.w.drew q w.heap.size o _ 71):=(HD.out x.w x.ok).drew;have HL:Hid (∀ W,Below x.w.heap.size x.w W->Calls Tryz.prog 71 #[ptr q,o.val,.int .i64 v] W (LandPost W q ps T (landO o v M))):=fun W hb=>HQ.out W (hx.trans (hb.mono hx.size));have HN:Hid (w.heap.size<x.w.heap.size):=Nat.lt_of_lt_of_le HVs.out x.ok.size;have HE:Hid (Below w.heap.size w x.w):=hx;clear e0 e1 e2 e3 e4 e5 hx HD HV HX HQ HVs;generalize x.w=X at *;go_wp2_with fail
  go_region_held3 (fun w'=>w'.cell? ⟨q,1+o.op.toNat * 2+1,none⟩=some (.func (.func 71) #[] #[])/\w'.cell? ⟨w.heap.size,0,none⟩=some (.int .i8 o.op)/\w'.cell? ⟨w.heap.size,1,none⟩=some (.int .u8 o.d)/\w'.cell? ⟨w.heap.size,2,none⟩=some (.int .u8 o.a)/\w'.cell? ⟨w.heap.size,3,none⟩=some (.int .u8 o.b)/\w'.cell? ⟨w.heap.size,4,none⟩=some (.int .i64 o.im))
   (first|exact HS.out.six)
   (first|(go_at_call 71;refine Calls.mono (HL.out _ (drew_up _)) ?_;rintro e w2 ⟨rfl,T',hm,htn⟩;have HS:Hid (Dz w2 q w.heap.size o _ 71):=(HS.out.land HN.out (HTl.out _ (Nat.lt_irrefl _)) htn (HK.out _ _ _ hm));have HR:Hid (MR w2 q ps T' (landO o v M)/\Tn X T w2 T'):=⟨hm,Tn.trans (Tn.of (drew_up X)) htn⟩;obtain ⟨ba,bc,po,pc,hA⟩:=hm.mat;have a2:=hA.o;have f2:=hA.fz 331;have q2:=hA.lt;rw [HLo.out] at a2;clear hA hm htn HL))
  go_wp2_with fail
  go_ret
  obtain ⟨hm,htn⟩:=HR.out;refine ⟨rfl,T',hm.setO,(Tn.of HE.out).trans (htn.trans ⟨(Fr.refl T' w2).setCell (.inr hm.tq) _ _,fun _ h=>.inl h⟩)⟩
 ·go_enter Tryz.func114,Tryz.ntmps114;go_wp2_with fail
  obtain ⟨V,hV⟩:∃ V,V=w.alloc (.cells #[.int .i8 o.op,.int .u8 o.d,.int .u8 o.a,.int .u8 o.b,.int .i64 o.im] 60):=⟨_,rfl⟩;rw [<- hV] at HD ⊢;have HB:Hid (Below w.heap.size w V):=by rw [hV];exact (Below.refl _ _).alloc (Nat.le_refl _) _
  have HVs:Hid (w.heap.size<V.heap.size):=by rw [hV];show w.heap.size<(World.alloc _ _).heap.size;simp
  clear hV;have e0:∀ z:Wd (Below V.heap.size V),z.w.cell? ⟨q,1+o.op.toNat * 2,none⟩=some (.func (.func 73) #[] #[]):=fun z=>(HD.out z.w z.ok).d0;have e1:∀ z:Wd (Below V.heap.size V),z.w.cell? ⟨w.heap.size,0,none⟩=some (.int .i8 o.op):=fun z=>(HD.out z.w z.ok).c0;have e2:∀ z:Wd (Below V.heap.size V),z.w.cell? ⟨w.heap.size,1,none⟩=some (.int .u8 o.d):=fun z=>(HD.out z.w z.ok).c1;have e3:∀ z:Wd (Below V.heap.size V),z.w.cell? ⟨w.heap.size,2,none⟩=some (.int .u8 o.a):=fun z=>(HD.out z.w z.ok).c2;have e4:∀ z:Wd (Below V.heap.size V),z.w.cell? ⟨w.heap.size,3,none⟩=some (.int .u8 o.b):=fun z=>(HD.out z.w z.ok).c3;have e5:∀ z:Wd (Below V.heap.size V),z.w.cell? ⟨w.heap.size,4,none⟩=some (.int .i64 o.im):=fun z=>(HD.out z.w z.ok).c4
  haveI inst:Nonempty (Wd (Below V.heap.size V)):=⟨⟨V,Below.refl _ _⟩⟩
  have HX:Hid (∀ z:Wd (Below V.heap.size V),Below w.heap.size w z.w):=fun z=>HB.out.trans (z.ok.mono HB.out.size);refine wp_region_in (Below V.heap.size V) (by kernel_rfl) (by kernel_rfl) ((Below.refl _ _).drew) ?_
  repeat (first|go_big_quiet_step ((go_at_call 73;exact calls_in (Nat.le_refl _) _ (HV.out _ (HX.out _)))))
  refine wpQuiet_nil ?_;rintro _ ⟨x,rfl⟩;have hx:=HX.out x;have HS:Hid (Dz x.w.drew q w.heap.size o _ 74):=(HD.out x.w x.ok).drew;have HL:Hid (∀ W,Below x.w.heap.size x.w W->Calls Tryz.prog 74 #[ptr q,o.val,.int .i64 v] W (LandPost W q ps T (landO o v M))):=fun W hb=>HQ.out W (hx.trans (hb.mono hx.size));have HN:Hid (w.heap.size<x.w.heap.size):=Nat.lt_of_lt_of_le HVs.out x.ok.size;have HE:Hid (Below w.heap.size w x.w):=hx;clear e0 e1 e2 e3 e4 e5 hx HD HV HX HQ HVs;generalize x.w=X at *;go_wp2_with fail
  go_region_held3 (fun w'=>w'.cell? ⟨q,1+o.op.toNat * 2+1,none⟩=some (.func (.func 74) #[] #[])/\w'.cell? ⟨w.heap.size,0,none⟩=some (.int .i8 o.op)/\w'.cell? ⟨w.heap.size,1,none⟩=some (.int .u8 o.d)/\w'.cell? ⟨w.heap.size,2,none⟩=some (.int .u8 o.a)/\w'.cell? ⟨w.heap.size,3,none⟩=some (.int .u8 o.b)/\w'.cell? ⟨w.heap.size,4,none⟩=some (.int .i64 o.im))
   (first|exact HS.out.six)
   (first|(go_at_call 74;refine Calls.mono (HL.out _ (drew_up _)) ?_;rintro e w2 ⟨rfl,T',hm,htn⟩;have HS:Hid (Dz w2 q w.heap.size o _ 74):=(HS.out.land HN.out (HTl.out _ (Nat.lt_irrefl _)) htn (HK.out _ _ _ hm));have HR:Hid (MR w2 q ps T' (landO o v M)/\Tn X T w2 T'):=⟨hm,Tn.trans (Tn.of (drew_up X)) htn⟩;obtain ⟨ba,bc,po,pc,hA⟩:=hm.mat;have a2:=hA.o;have f2:=hA.fz 331;have q2:=hA.lt;rw [HLo.out] at a2;clear hA hm htn HL))
  go_wp2_with fail
  go_ret
  obtain ⟨hm,htn⟩:=HR.out;refine ⟨rfl,T',hm.setO,(Tn.of HE.out).trans (htn.trans ⟨(Fr.refl T' w2).setCell (.inr hm.tq) _ _,fun _ h=>.inl h⟩)⟩
 ·go_enter Tryz.func114,Tryz.ntmps114;go_wp2_with fail
  obtain ⟨V,hV⟩:∃ V,V=w.alloc (.cells #[.int .i8 o.op,.int .u8 o.d,.int .u8 o.a,.int .u8 o.b,.int .i64 o.im] 60):=⟨_,rfl⟩;rw [<- hV] at HD ⊢;have HB:Hid (Below w.heap.size w V):=by rw [hV];exact (Below.refl _ _).alloc (Nat.le_refl _) _
  have HVs:Hid (w.heap.size<V.heap.size):=by rw [hV];show w.heap.size<(World.alloc _ _).heap.size;simp
  clear hV;have e0:∀ z:Wd (Below V.heap.size V),z.w.cell? ⟨q,1+o.op.toNat * 2,none⟩=some (.func (.func 75) #[] #[]):=fun z=>(HD.out z.w z.ok).d0;have e1:∀ z:Wd (Below V.heap.size V),z.w.cell? ⟨w.heap.size,0,none⟩=some (.int .i8 o.op):=fun z=>(HD.out z.w z.ok).c0;have e2:∀ z:Wd (Below V.heap.size V),z.w.cell? ⟨w.heap.size,1,none⟩=some (.int .u8 o.d):=fun z=>(HD.out z.w z.ok).c1;have e3:∀ z:Wd (Below V.heap.size V),z.w.cell? ⟨w.heap.size,2,none⟩=some (.int .u8 o.a):=fun z=>(HD.out z.w z.ok).c2;have e4:∀ z:Wd (Below V.heap.size V),z.w.cell? ⟨w.heap.size,3,none⟩=some (.int .u8 o.b):=fun z=>(HD.out z.w z.ok).c3;have e5:∀ z:Wd (Below V.heap.size V),z.w.cell? ⟨w.heap.size,4,none⟩=some (.int .i64 o.im):=fun z=>(HD.out z.w z.ok).c4
  haveI inst:Nonempty (Wd (Below V.heap.size V)):=⟨⟨V,Below.refl _ _⟩⟩
  have HX:Hid (∀ z:Wd (Below V.heap.size V),Below w.heap.size w z.w):=fun z=>HB.out.trans (z.ok.mono HB.out.size);refine wp_region_in (Below V.heap.size V) (by kernel_rfl) (by kernel_rfl) ((Below.refl _ _).drew) ?_
  repeat (first|go_big_quiet_step ((go_at_call 75;exact calls_in (Nat.le_refl _) _ (HV.out _ (HX.out _)))))
  refine wpQuiet_nil ?_;rintro _ ⟨x,rfl⟩;have hx:=HX.out x;have HS:Hid (Dz x.w.drew q w.heap.size o _ 76):=(HD.out x.w x.ok).drew;have HL:Hid (∀ W,Below x.w.heap.size x.w W->Calls Tryz.prog 76 #[ptr q,o.val,.int .i64 v] W (LandPost W q ps T (landO o v M))):=fun W hb=>HQ.out W (hx.trans (hb.mono hx.size));have HN:Hid (w.heap.size<x.w.heap.size):=Nat.lt_of_lt_of_le HVs.out x.ok.size;have HE:Hid (Below w.heap.size w x.w):=hx;clear e0 e1 e2 e3 e4 e5 hx HD HV HX HQ HVs;generalize x.w=X at *;go_wp2_with fail
  go_region_held3 (fun w'=>w'.cell? ⟨q,1+o.op.toNat * 2+1,none⟩=some (.func (.func 76) #[] #[])/\w'.cell? ⟨w.heap.size,0,none⟩=some (.int .i8 o.op)/\w'.cell? ⟨w.heap.size,1,none⟩=some (.int .u8 o.d)/\w'.cell? ⟨w.heap.size,2,none⟩=some (.int .u8 o.a)/\w'.cell? ⟨w.heap.size,3,none⟩=some (.int .u8 o.b)/\w'.cell? ⟨w.heap.size,4,none⟩=some (.int .i64 o.im))
   (first|exact HS.out.six)
   (first|(go_at_call 76;refine Calls.mono (HL.out _ (drew_up _)) ?_;rintro e w2 ⟨rfl,T',hm,htn⟩;have HS:Hid (Dz w2 q w.heap.size o _ 76):=(HS.out.land HN.out (HTl.out _ (Nat.lt_irrefl _)) htn (HK.out _ _ _ hm));have HR:Hid (MR w2 q ps T' (landO o v M)/\Tn X T w2 T'):=⟨hm,Tn.trans (Tn.of (drew_up X)) htn⟩;obtain ⟨ba,bc,po,pc,hA⟩:=hm.mat;have a2:=hA.o;have f2:=hA.fz 331;have q2:=hA.lt;rw [HLo.out] at a2;clear hA hm htn HL))
  go_wp2_with fail
  go_ret
  obtain ⟨hm,htn⟩:=HR.out;refine ⟨rfl,T',hm.setO,(Tn.of HE.out).trans (htn.trans ⟨(Fr.refl T' w2).setCell (.inr hm.tq) _ _,fun _ h=>.inl h⟩)⟩
end
section
variable {w:World} {q n b f bc pc:Nat} {po:Option Addr} {x:Bk} {p:Pl} {M:Ma}
def lA (p:Pl) (y:Bool):Option Addr:=if y then p.ba else p.oa
def lC (p:Pl) (y:Bool):Nat:=if y then p.bc else p.oc
theorem list_any (h:MAt w q (some ⟨b,f,none⟩) n bc po pc M) (hb:BAt w b (f+M.b*6) x p) (hlt:M.b<n):Calls Tryz.prog 115 #[ptr q] w fun e w'=>e=.returned (.slice (lA p M.y) (lst x M.y).length (lC p M.y))/\∃ m,w'=w.drewN m:=by
 have c0:=hb.c0;have c3:=hb.c3;have a0:=h.b;have a1:=h.y;have ab:=h.bk;have hq:=h.lt;clear h hb
 cases hy:M.y
 ·rw [hy] at a1;clear hy;generalize M.b=mb at *;show Calls Tryz.prog 115 #[ptr q] w fun e w'=>e=.returned (.slice p.oa x.ops.length p.oc)/\∃ m,w'=w.drewN m;go_enter Tryz.func115,Tryz.ntmps115;go_wp2_with fail
  go_quiet (fail)
  go_wp2_with fail
  go_ret
  exact ⟨rfl,_,rfl⟩
 ·rw [hy] at a1;clear hy;generalize M.b=mb at *;show Calls Tryz.prog 115 #[ptr q] w fun e w'=>e=.returned (.slice p.ba x.body.length p.bc)/\∃ m,w'=w.drewN m;go_enter Tryz.func115,Tryz.ntmps115;go_wp2_with fail
  go_quiet (fail)
  go_wp2_with fail
  go_ret
  exact ⟨rfl,_,rfl⟩
theorem end_any (h:MAt w q (some ⟨b,f,none⟩) n bc po pc M) (hb:BAt w b (f+M.b*6) x p) (hz:b<w.heap.size) (hlt:M.b<n):Calls Tryz.prog 113 #[ptr q] w fun e w'=>e=.returned (.agg #[.int .i64 (M.b:Int),.bool M.y,.int .i64 ((lst x M.y).length:Int)])/\Below w.heap.size w w':=by
 have HL:Hid (∀ W,Below w.heap.size w W->Calls Tryz.prog 115 #[ptr q] W fun e w'=>e=.returned (.slice (lA p M.y) (lst x M.y).length (lC p M.y))/\∃ m,w'=W.drewN m):=fun W hb'=>list_any (h.up hb') (hb.below hb' hz) hlt;have a0:=h.b;have a1:=h.y;have hq:=h.lt;clear h hb hz hlt;generalize lA p M.y=la at *;generalize lC p M.y=lc at *;generalize (lst x M.y).length=ll at *;generalize M.b=mb at *;generalize M.y=my at *;go_enter Tryz.func113,Tryz.ntmps113;go_wp2_with fail
 have hne:¬ q=w.heap.size:=by omega
 have hne':¬ w.heap.size=q:=by omega
 go_region_held3 (fun w'=>w'.cell? ⟨q,329,none⟩=some (.int .i64 (mb:Int))/\w'.cell? ⟨q,330,none⟩=some (.bool my))
  (first|(go_keep;done))
  (first|(go_at_call 115;refine Calls.mono (HL.out _ (below_ad _ _)) ?_;rintro e w2 ⟨rfl,m,hm⟩;subst hm))
 all_goals
  go_wp2_with fail
  refine bodyPost_ret (v:=.agg #[.int .i64 (mb:Int),.bool my,.int .i64 (ll:Int)]) (by simp [results,Tryz.results113,go_sem]) rfl ⟨rfl,(((drewN_below ((Below.refl _ _).alloc (Nat.le_refl _) _) _).setCell (by show w.heap.size<=w.heap.size;omega) _).setCell (by show w.heap.size<=w.heap.size;omega) _).setCell (by show w.heap.size<=w.heap.size;omega) _⟩
end
end Go.Proofs.YtcmlnemokckbdaaGreatDoor.L8.Sm
