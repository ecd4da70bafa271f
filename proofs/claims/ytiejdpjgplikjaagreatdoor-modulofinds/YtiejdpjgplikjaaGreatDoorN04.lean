/- Parts Ro Rc Rw Kx. -/
import Derived.Test.YtiejdpjgplikjaaGreatDoorN02
import Derived.Deep.AppendLies
set_option maxRecDepth 20000
set_option maxHeartbeats 4000000
namespace Go.Proofs.YtiejdpjgplikjaaGreatDoor.Op
open Go.ChangeShapes Go.WideShapes Go.ChangeAt Go.RowKit
abbrev rz:Value:=.agg #[.string ⟨#[]⟩,.int .i64 0,.bool false,.bool false,.bool false,.bool false,.bool false]
abbrev K.row (k:K):Value:=.agg #[.string k.s,.int .i64 k.cls,.bool k.D,.bool k.A,.bool k.B,.bool k.N,.bool k.I]
theorem turns18 (w:World):Calls Tryz.prog 143 #[.int .i8 18] w fun e w'=>e=.returned (.tuple #[(kindL[18]'(by decide)).row,.bool true])/\Below w.heap.size w w':=by
 go_enter Tryz.func143,Tryz.ntmps143;go_wp2
 refine bodyPost_ret (v:=.tuple #[(kindL[18]'(by decide)).row,.bool true]) (by simp [results,Tryz.results143,go_sem];exact ⟨rfl,rfl,rfl,rfl,rfl,rfl,rfl⟩) rfl ⟨rfl,by go_grown⟩
theorem turns19 (w:World):Calls Tryz.prog 143 #[.int .i8 19] w fun e w'=>e=.returned (.tuple #[(kindL[19]'(by decide)).row,.bool true])/\Below w.heap.size w w':=by
 go_enter Tryz.func143,Tryz.ntmps143;go_wp2
 refine bodyPost_ret (v:=.tuple #[(kindL[19]'(by decide)).row,.bool true]) (by simp [results,Tryz.results143,go_sem];exact ⟨rfl,rfl,rfl,rfl,rfl,rfl,rfl⟩) rfl ⟨rfl,by go_grown⟩
theorem turns20 (w:World):Calls Tryz.prog 143 #[.int .i8 20] w fun e w'=>e=.returned (.tuple #[(kindL[20]'(by decide)).row,.bool true])/\Below w.heap.size w w':=by
 go_enter Tryz.func143,Tryz.ntmps143;go_wp2
 refine bodyPost_ret (v:=.tuple #[(kindL[20]'(by decide)).row,.bool true]) (by simp [results,Tryz.results143,go_sem];exact ⟨rfl,rfl,rfl,rfl,rfl,rfl,rfl⟩) rfl ⟨rfl,by go_grown⟩
theorem turns21 (w:World):Calls Tryz.prog 143 #[.int .i8 21] w fun e w'=>e=.returned (.tuple #[(kindL[21]'(by decide)).row,.bool true])/\Below w.heap.size w w':=by
 go_enter Tryz.func143,Tryz.ntmps143;go_wp2
 refine bodyPost_ret (v:=.tuple #[(kindL[21]'(by decide)).row,.bool true]) (by simp [results,Tryz.results143,go_sem];exact ⟨rfl,rfl,rfl,rfl,rfl,rfl,rfl⟩) rfl ⟨rfl,by go_grown⟩
theorem turns22 (w:World):Calls Tryz.prog 143 #[.int .i8 22] w fun e w'=>e=.returned (.tuple #[(kindL[22]'(by decide)).row,.bool true])/\Below w.heap.size w w':=by
 go_enter Tryz.func143,Tryz.ntmps143;go_wp2
 refine bodyPost_ret (v:=.tuple #[(kindL[22]'(by decide)).row,.bool true]) (by simp [results,Tryz.results143,go_sem];exact ⟨rfl,rfl,rfl,rfl,rfl,rfl,rfl⟩) rfl ⟨rfl,by go_grown⟩
theorem turns23 (w:World):Calls Tryz.prog 143 #[.int .i8 23] w fun e w'=>e=.returned (.tuple #[(kindL[23]'(by decide)).row,.bool true])/\Below w.heap.size w w':=by
 go_enter Tryz.func143,Tryz.ntmps143;go_wp2
 refine bodyPost_ret (v:=.tuple #[(kindL[23]'(by decide)).row,.bool true]) (by simp [results,Tryz.results143,go_sem];exact ⟨rfl,rfl,rfl,rfl,rfl,rfl,rfl⟩) rfl ⟨rfl,by go_grown⟩
theorem turnsNo (d:Int) (w:World) (h:d<18\/24<=d):Calls Tryz.prog 143 #[.int .i8 d] w fun e w'=>e=.returned (.tuple #[rz,.bool false])/\Below w.heap.size w w':=by
 have g18:(d==18)=false:=by simp;omega
 have g19:(d==19)=false:=by simp;omega
 have g20:(d==20)=false:=by simp;omega
 have g21:(d==21)=false:=by simp;omega
 have g22:(d==22)=false:=by simp;omega
 have g23:(d==23)=false:=by simp;omega
 clear h;go_enter Tryz.func143,Tryz.ntmps143;go_wp2
 refine bodyPost_ret (v:=.tuple #[rz,.bool false]) (by simp [results,Tryz.results143,go_sem]) rfl ⟨rfl,by go_grown⟩
theorem of0 (w:World):Calls Tryz.prog 102 #[.int .i8 0] w fun e w'=>e=.returned (.tuple #[(kindL[0]'(by decide)).row,.bool true])/\Below w.heap.size w w':=by
 go_enter Tryz.func102,Tryz.ntmps102;go_wp2
 refine bodyPost_ret (v:=.tuple #[(kindL[0]'(by decide)).row,.bool true]) (by simp [results,Tryz.results102,go_sem];exact ⟨rfl,rfl,rfl,rfl,rfl,rfl,rfl⟩) rfl ⟨rfl,by go_grown⟩
theorem of1 (w:World):Calls Tryz.prog 102 #[.int .i8 1] w fun e w'=>e=.returned (.tuple #[(kindL[1]'(by decide)).row,.bool true])/\Below w.heap.size w w':=by
 go_enter Tryz.func102,Tryz.ntmps102;go_wp2
 refine bodyPost_ret (v:=.tuple #[(kindL[1]'(by decide)).row,.bool true]) (by simp [results,Tryz.results102,go_sem];exact ⟨rfl,rfl,rfl,rfl,rfl,rfl,rfl⟩) rfl ⟨rfl,by go_grown⟩
theorem of2 (w:World):Calls Tryz.prog 102 #[.int .i8 2] w fun e w'=>e=.returned (.tuple #[(kindL[2]'(by decide)).row,.bool true])/\Below w.heap.size w w':=by
 go_enter Tryz.func102,Tryz.ntmps102;go_wp2
 refine bodyPost_ret (v:=.tuple #[(kindL[2]'(by decide)).row,.bool true]) (by simp [results,Tryz.results102,go_sem];exact ⟨rfl,rfl,rfl,rfl,rfl,rfl,rfl⟩) rfl ⟨rfl,by go_grown⟩
theorem of3 (w:World):Calls Tryz.prog 102 #[.int .i8 3] w fun e w'=>e=.returned (.tuple #[(kindL[3]'(by decide)).row,.bool true])/\Below w.heap.size w w':=by
 go_enter Tryz.func102,Tryz.ntmps102;go_wp2
 refine bodyPost_ret (v:=.tuple #[(kindL[3]'(by decide)).row,.bool true]) (by simp [results,Tryz.results102,go_sem];exact ⟨rfl,rfl,rfl,rfl,rfl,rfl,rfl⟩) rfl ⟨rfl,by go_grown⟩
theorem of4 (w:World):Calls Tryz.prog 102 #[.int .i8 4] w fun e w'=>e=.returned (.tuple #[(kindL[4]'(by decide)).row,.bool true])/\Below w.heap.size w w':=by
 go_enter Tryz.func102,Tryz.ntmps102;go_wp2
 refine bodyPost_ret (v:=.tuple #[(kindL[4]'(by decide)).row,.bool true]) (by simp [results,Tryz.results102,go_sem];exact ⟨rfl,rfl,rfl,rfl,rfl,rfl,rfl⟩) rfl ⟨rfl,by go_grown⟩
theorem of5 (w:World):Calls Tryz.prog 102 #[.int .i8 5] w fun e w'=>e=.returned (.tuple #[(kindL[5]'(by decide)).row,.bool true])/\Below w.heap.size w w':=by
 go_enter Tryz.func102,Tryz.ntmps102;go_wp2
 refine bodyPost_ret (v:=.tuple #[(kindL[5]'(by decide)).row,.bool true]) (by simp [results,Tryz.results102,go_sem];exact ⟨rfl,rfl,rfl,rfl,rfl,rfl,rfl⟩) rfl ⟨rfl,by go_grown⟩
theorem of6 (w:World):Calls Tryz.prog 102 #[.int .i8 6] w fun e w'=>e=.returned (.tuple #[(kindL[6]'(by decide)).row,.bool true])/\Below w.heap.size w w':=by
 go_enter Tryz.func102,Tryz.ntmps102;go_wp2
 refine bodyPost_ret (v:=.tuple #[(kindL[6]'(by decide)).row,.bool true]) (by simp [results,Tryz.results102,go_sem];exact ⟨rfl,rfl,rfl,rfl,rfl,rfl,rfl⟩) rfl ⟨rfl,by go_grown⟩
theorem of7 (w:World):Calls Tryz.prog 102 #[.int .i8 7] w fun e w'=>e=.returned (.tuple #[(kindL[7]'(by decide)).row,.bool true])/\Below w.heap.size w w':=by
 go_enter Tryz.func102,Tryz.ntmps102;go_wp2
 refine bodyPost_ret (v:=.tuple #[(kindL[7]'(by decide)).row,.bool true]) (by simp [results,Tryz.results102,go_sem];exact ⟨rfl,rfl,rfl,rfl,rfl,rfl,rfl⟩) rfl ⟨rfl,by go_grown⟩
theorem of8 (w:World):Calls Tryz.prog 102 #[.int .i8 8] w fun e w'=>e=.returned (.tuple #[(kindL[8]'(by decide)).row,.bool true])/\Below w.heap.size w w':=by
 go_enter Tryz.func102,Tryz.ntmps102;go_wp2
 refine bodyPost_ret (v:=.tuple #[(kindL[8]'(by decide)).row,.bool true]) (by simp [results,Tryz.results102,go_sem];exact ⟨rfl,rfl,rfl,rfl,rfl,rfl,rfl⟩) rfl ⟨rfl,by go_grown⟩
theorem of9 (w:World):Calls Tryz.prog 102 #[.int .i8 9] w fun e w'=>e=.returned (.tuple #[(kindL[9]'(by decide)).row,.bool true])/\Below w.heap.size w w':=by
 go_enter Tryz.func102,Tryz.ntmps102;go_wp2
 refine bodyPost_ret (v:=.tuple #[(kindL[9]'(by decide)).row,.bool true]) (by simp [results,Tryz.results102,go_sem];exact ⟨rfl,rfl,rfl,rfl,rfl,rfl,rfl⟩) rfl ⟨rfl,by go_grown⟩
theorem of10 (w:World):Calls Tryz.prog 102 #[.int .i8 10] w fun e w'=>e=.returned (.tuple #[(kindL[10]'(by decide)).row,.bool true])/\Below w.heap.size w w':=by
 go_enter Tryz.func102,Tryz.ntmps102;go_wp2
 refine bodyPost_ret (v:=.tuple #[(kindL[10]'(by decide)).row,.bool true]) (by simp [results,Tryz.results102,go_sem];exact ⟨rfl,rfl,rfl,rfl,rfl,rfl,rfl⟩) rfl ⟨rfl,by go_grown⟩
theorem of11 (w:World):Calls Tryz.prog 102 #[.int .i8 11] w fun e w'=>e=.returned (.tuple #[(kindL[11]'(by decide)).row,.bool true])/\Below w.heap.size w w':=by
 go_enter Tryz.func102,Tryz.ntmps102;go_wp2
 refine bodyPost_ret (v:=.tuple #[(kindL[11]'(by decide)).row,.bool true]) (by simp [results,Tryz.results102,go_sem];exact ⟨rfl,rfl,rfl,rfl,rfl,rfl,rfl⟩) rfl ⟨rfl,by go_grown⟩
theorem of12 (w:World):Calls Tryz.prog 102 #[.int .i8 12] w fun e w'=>e=.returned (.tuple #[(kindL[12]'(by decide)).row,.bool true])/\Below w.heap.size w w':=by
 go_enter Tryz.func102,Tryz.ntmps102;go_wp2
 refine bodyPost_ret (v:=.tuple #[(kindL[12]'(by decide)).row,.bool true]) (by simp [results,Tryz.results102,go_sem];exact ⟨rfl,rfl,rfl,rfl,rfl,rfl,rfl⟩) rfl ⟨rfl,by go_grown⟩
theorem of13 (w:World):Calls Tryz.prog 102 #[.int .i8 13] w fun e w'=>e=.returned (.tuple #[(kindL[13]'(by decide)).row,.bool true])/\Below w.heap.size w w':=by
 go_enter Tryz.func102,Tryz.ntmps102;go_wp2
 refine bodyPost_ret (v:=.tuple #[(kindL[13]'(by decide)).row,.bool true]) (by simp [results,Tryz.results102,go_sem];exact ⟨rfl,rfl,rfl,rfl,rfl,rfl,rfl⟩) rfl ⟨rfl,by go_grown⟩
theorem of14 (w:World):Calls Tryz.prog 102 #[.int .i8 14] w fun e w'=>e=.returned (.tuple #[(kindL[14]'(by decide)).row,.bool true])/\Below w.heap.size w w':=by
 go_enter Tryz.func102,Tryz.ntmps102;go_wp2
 refine bodyPost_ret (v:=.tuple #[(kindL[14]'(by decide)).row,.bool true]) (by simp [results,Tryz.results102,go_sem];exact ⟨rfl,rfl,rfl,rfl,rfl,rfl,rfl⟩) rfl ⟨rfl,by go_grown⟩
theorem of15 (w:World):Calls Tryz.prog 102 #[.int .i8 15] w fun e w'=>e=.returned (.tuple #[(kindL[15]'(by decide)).row,.bool true])/\Below w.heap.size w w':=by
 go_enter Tryz.func102,Tryz.ntmps102;go_wp2
 refine bodyPost_ret (v:=.tuple #[(kindL[15]'(by decide)).row,.bool true]) (by simp [results,Tryz.results102,go_sem];exact ⟨rfl,rfl,rfl,rfl,rfl,rfl,rfl⟩) rfl ⟨rfl,by go_grown⟩
theorem of16 (w:World):Calls Tryz.prog 102 #[.int .i8 16] w fun e w'=>e=.returned (.tuple #[(kindL[16]'(by decide)).row,.bool true])/\Below w.heap.size w w':=by
 go_enter Tryz.func102,Tryz.ntmps102;go_wp2
 refine bodyPost_ret (v:=.tuple #[(kindL[16]'(by decide)).row,.bool true]) (by simp [results,Tryz.results102,go_sem];exact ⟨rfl,rfl,rfl,rfl,rfl,rfl,rfl⟩) rfl ⟨rfl,by go_grown⟩
theorem of17 (w:World):Calls Tryz.prog 102 #[.int .i8 17] w fun e w'=>e=.returned (.tuple #[(kindL[17]'(by decide)).row,.bool true])/\Below w.heap.size w w':=by
 go_enter Tryz.func102,Tryz.ntmps102;go_wp2
 refine bodyPost_ret (v:=.tuple #[(kindL[17]'(by decide)).row,.bool true]) (by simp [results,Tryz.results102,go_sem];exact ⟨rfl,rfl,rfl,rfl,rfl,rfl,rfl⟩) rfl ⟨rfl,by go_grown⟩
theorem At.r7 {w:World} {b:Nat} {x0 x1 x2 x3 x4 x5 x6:Value} (h:At w b #[x0,x1,x2,x3,x4,x5,x6]):w.cell? ⟨b,0,none⟩=some x0/\w.cell? ⟨b,1,none⟩=some x1/\w.cell? ⟨b,2,none⟩=some x2/\w.cell? ⟨b,3,none⟩=some x3/\w.cell? ⟨b,4,none⟩=some x4/\w.cell? ⟨b,5,none⟩=some x5/\w.cell? ⟨b,6,none⟩=some x6:=
 ⟨h.c 0 _ rfl,h.c 1 _ rfl,h.c 2 _ rfl,h.c 3 _ rfl,h.c 4 _ rfl,h.c 5 _ rfl,h.c 6 _ rfl⟩
theorem ofTurns (d:Int) (x0:ByteArray) (x1:Int) (x2 x3 x4 x5 x6 x7:Bool) (w:World) (h:d<0\/18<=d) (hT:∀ w,Calls Tryz.prog 143 #[.int .i8 d] w fun e w'=>e=.returned (.tuple #[.agg #[.string x0,.int .i64 x1,.bool x2,.bool x3,.bool x4,.bool x5,.bool x6],.bool x7])/\Below w.heap.size w w') :
  Calls Tryz.prog 102 #[.int .i8 d] w fun e w'=>e=.returned (.tuple #[.agg #[.string x0,.int .i64 x1,.bool x2,.bool x3,.bool x4,.bool x5,.bool x6],.bool x7])/\Below w.heap.size w w':=by
 have g0:(d==0)=false:=by simp;omega
 have g1:(d==1)=false:=by simp;omega
 have g2:(d==2)=false:=by simp;omega
 have g3:(d==3)=false:=by simp;omega
 have g4:(d==4)=false:=by simp;omega
 have g5:(d==5)=false:=by simp;omega
 have g6:(d==6)=false:=by simp;omega
 have g7:(d==7)=false:=by simp;omega
 have g8:(d==8)=false:=by simp;omega
 have g9:(d==9)=false:=by simp;omega
 have g10:(d==10)=false:=by simp;omega
 have g11:(d==11)=false:=by simp;omega
 have g12:(d==12)=false:=by simp;omega
 have g13:(d==13)=false:=by simp;omega
 have g14:(d==14)=false:=by simp;omega
 have g15:(d==15)=false:=by simp;omega
 have g16:(d==16)=false:=by simp;omega
 have g17:(d==17)=false:=by simp;omega
 have HT:Hid _:=hT;clear h hT;go_enter Tryz.func102,Tryz.ntmps102;go_wp2_with (first|(go_at_call 143;refine Calls.mono (HT.out _) ?_;rintro e w1 ⟨rfl,hb⟩;obtain ⟨a1,hb0,hz⟩:=one_new w _ _ hb;have HB:Hid (Below w.heap.size w w1):=hb0;obtain ⟨c0,c1,c2,c3,c4,c5,c6⟩:=a1.r7;have f0:=a1.f 0;have f1:=a1.f 1;have f2:=a1.f 2;have f3:=a1.f 3;have f4:=a1.f 4;have f5:=a1.f 5;have f6:=a1.f 6;clear hb hb0 a1))
 refine bodyPost_ret (v:=.tuple #[.agg #[.string x0,.int .i64 x1,.bool x2,.bool x3,.bool x4,.bool x5,.bool x6],.bool x7]) (by simp [results,Tryz.results102,go_sem,c0,c1,c2,c3,c4,c5,c6]) rfl ⟨rfl,HB.out.trans ?_⟩
 go_grown
theorem of_no (d:Int) (w:World) (h:kOf d=none):Calls Tryz.prog 102 #[.int .i8 d] w fun e w'=>e=.returned (.tuple #[rz,.bool false])/\Below w.heap.size w w':=by
 have:=kOf_out h
 exact ofTurns d _ _ _ _ _ _ _ _ w (by omega) (fun w=>turnsNo d w (by omega))
theorem of_yes (d:Int) (k:K) (w:World) (h:kOf d=some k):Calls Tryz.prog 102 #[.int .i8 d] w fun e w'=>e=.returned (.tuple #[k.row,.bool true])/\Below w.heap.size w w':=by
 obtain ⟨n,hn,rfl,rfl⟩:=kOf_some h;clear h
 match n,hn with
 | 0,_=>exact of0 w
 | 1,_=>exact of1 w
 | 2,_=>exact of2 w
 | 3,_=>exact of3 w
 | 4,_=>exact of4 w
 | 5,_=>exact of5 w
 | 6,_=>exact of6 w
 | 7,_=>exact of7 w
 | 8,_=>exact of8 w
 | 9,_=>exact of9 w
 | 10,_=>exact of10 w
 | 11,_=>exact of11 w
 | 12,_=>exact of12 w
 | 13,_=>exact of13 w
 | 14,_=>exact of14 w
 | 15,_=>exact of15 w
 | 16,_=>exact of16 w
 | 17,_=>exact of17 w
 | 18,_=>exact ofTurns 18 _ _ _ _ _ _ _ _ w (by omega) (fun w=>turns18 w)
 | 19,_=>exact ofTurns 19 _ _ _ _ _ _ _ _ w (by omega) (fun w=>turns19 w)
 | 20,_=>exact ofTurns 20 _ _ _ _ _ _ _ _ w (by omega) (fun w=>turns20 w)
 | 21,_=>exact ofTurns 21 _ _ _ _ _ _ _ _ w (by omega) (fun w=>turns21 w)
 | 22,_=>exact ofTurns 22 _ _ _ _ _ _ _ _ w (by omega) (fun w=>turns22 w)
 | 23,_=>exact ofTurns 23 _ _ _ _ _ _ _ _ w (by omega) (fun w=>turns23 w)
 | _+24,h=>exact absurd h (by omega)
theorem refCheck_none (o:O) (w:World) (h:kOf o.op=none):Calls Tryz.prog 134 #[o.val] w fun e w'=>e=.returned (.int .i64 30)/\Below w.heap.size w w':=by
 have HF:Hid _:=fun w=>of_no o.op w h;clear h;go_enter Tryz.func134,Tryz.ntmps134;go_wp2_with (first|(go_at_call 102;refine Calls.mono (HF.out _) ?_;rintro e w1 ⟨rfl,hb⟩;obtain ⟨a1,hb0,hz⟩:=one_new w _ _ hb;have HB:Hid (Below w.heap.size w w1):=hb0;obtain ⟨o0,o1,o2,o3,o4⟩:=a1.o5;clear hb hb0 a1))
 go_ret
 exact ⟨rfl,HB.out.trans ((Below.refl _ _).alloc (Nat.le_of_lt hz) _)⟩
theorem refCheck_out (o:O) (k:K) (w:World) (h:kOf o.op=some k) (hx:31<o.d\/31<o.a\/31<o.b\/o.im < -2147483648\/2147483647<o.im):Calls Tryz.prog 134 #[o.val] w fun e w'=>e=.returned (.int .i64 30)/\Below w.heap.size w w':=by
 have HF:Hid _:=fun w=>of_yes o.op k w h;clear h;go_enter Tryz.func134,Tryz.ntmps134;go_wp2_with (first|(go_at_call 102;refine Calls.mono (HF.out _) ?_;rintro e w1 ⟨rfl,hb⟩;obtain ⟨a1,hb0,hz⟩:=one_new w _ _ hb;have HB:Hid (Below w.heap.size w w1):=hb0;obtain ⟨o0,o1,o2,o3,o4⟩:=a1.o5;clear hb hb0 a1))
 all_goals
  go_ret
  exact ⟨rfl,HB.out.trans ((Below.refl _ _).alloc (Nat.le_of_lt hz) _)⟩
theorem refCheck_in (o:O) (k:K) (w:World) (h:kOf o.op=some k) (x1:o.d<=31) (x2:o.a<=31) (x3:o.b<=31) (x4 : -2147483648<=o.im) (x5:o.im<=2147483647):Calls Tryz.prog 134 #[o.val] w fun e w'=>e=.returned (.int .i64 (if okF k o then 0 else 30))/\Below w.heap.size w w':=by
 have HF:Hid _:=fun w=>of_yes o.op k w h;clear h;generalize hv:(if okF k o then (0:Int) else 30)=v;have HV:Hid (_=v):=hv;have y1:o.d<32:=by omega
 have y2:o.a<32:=by omega
 have y3:o.b<32:=by omega
 clear hv;go_enter Tryz.func134,Tryz.ntmps134;go_wp2_with (first|(go_at_call 102;refine Calls.mono (HF.out _) ?_;rintro e w1 ⟨rfl,hb⟩;obtain ⟨a1,hb0,hz⟩:=one_new w _ _ hb;have HB:Hid (Below w.heap.size w w1):=hb0;obtain ⟨o0,o1,o2,o3,o4⟩:=a1.o5;clear hb hb0 a1))
 all_goals
  go_ret
  refine ⟨ret_int ?_,HB.out.trans ((Below.refl _ _).alloc (Nat.le_of_lt hz) _)⟩;rw [<- HV.out]
  simp_all [okF,rH,iH]
theorem refCheck_any (o:O) (w:World) (ho:o.Ok):Calls Tryz.prog 134 #[o.val] w fun e w'=>e=.returned (.int .i64 (ckE o))/\Below w.heap.size w w':=by
 cases hk:kOf o.op with
 | none=>
  rw [show ckE o=30 by simp [ckE,okO_none hk]];exact refCheck_none o w hk
 | some k=>
  rw [show ckE o=if okF k o then 0 else 30 by simp [ckE,okO_some hk]]
  by_cases hx:31<o.d\/31<o.a\/31<o.b\/o.im < -2147483648\/2147483647<o.im
  ·have hf:okF k o=false:=by
    obtain ⟨_,_,d0,d1,a0,a1,b0,b1,i0,i1⟩:=ho;unfold okF rH iH
    cases k.D <;> cases k.A <;> cases k.B <;> cases k.N <;> cases k.I <;> simp <;> omega
   rw [hf];exact refCheck_out o k w hk hx
  ·exact refCheck_in o k w hk (by omega) (by omega) (by omega) (by omega) (by omega)
theorem refWrites_any (o:O) (w:World) (ho:o.Ok):Calls Tryz.prog 137 #[o.val] w fun e w'=>e=.returned (.tuple #[.int .u8 (wrD o),.bool (wrB o)])/\Below w.heap.size w w':=by
 cases hk:kOf o.op with
 | none=>
  have hw:wrB o=false:=wr_no (okO_none hk);rw [show wrD o=0 by simp [wrD,hw],hw];have HF:Hid _:=fun w=>of_no o.op w hk;have HC:Hid (∀ w,Calls Tryz.prog 134 #[o.val] w fun e w'=>e=.returned (.int .i64 30)/\Below w.heap.size w w'):=fun w=>refCheck_none o w hk;clear hk hw ho;go_enter Tryz.func137,Tryz.ntmps137;go_wp2_with (first|(go_at_call 102;refine Calls.mono (HF.out _) ?_;rintro e w1 ⟨rfl,hb⟩;obtain ⟨a1,hb0,hz⟩:=one_new w _ _ hb;have HB:Hid (Below w.heap.size w w1):=hb0;have HO:Hid _:=a1;obtain ⟨o0,o1,o2,o3,o4⟩:=a1.o5;clear hb hb0 a1)|(go_at_call 134;refine Calls.mono (HC.out _) ?_;rintro e w2 ⟨rfl,hb⟩;obtain ⟨-,hb0,hz2⟩:=one_new w1 _ _ hb;have HB2:Hid (Below w.heap.size w w2):=HB.out.trans (hb0.mono (Nat.le_of_lt hz));clear hb hb0))
  go_ret2
  exact ⟨rfl,HB2.out⟩
 | some k=>
  have HF:Hid _:=fun w=>of_yes o.op k w hk;have HC0:=fun w=>refCheck_any o w ho
  cases hf:okF k o
  ·have hO:okO o=false:=by rw [okO_some hk];exact hf
   have hw:wrB o=false:=wr_no hO;rw [show wrD o=0 by simp [wrD,hw],hw];rw [show ckE o=30 by simp [ckE,hO]] at HC0;have HC:Hid _:=HC0;clear hk hw ho hO hf HC0;go_enter Tryz.func137,Tryz.ntmps137;go_wp2_with (first|(go_at_call 102;refine Calls.mono (HF.out _) ?_;rintro e w1 ⟨rfl,hb⟩;obtain ⟨a1,hb0,hz⟩:=one_new w _ _ hb;have HB:Hid (Below w.heap.size w w1):=hb0;have HO:Hid _:=a1;obtain ⟨o0,o1,o2,o3,o4⟩:=a1.o5;clear hb hb0 a1)|(go_at_call 134;refine Calls.mono (HC.out _) ?_;rintro e w2 ⟨rfl,hb⟩;obtain ⟨-,hb0,hz2⟩:=one_new w1 _ _ hb;have HB2:Hid (Below w.heap.size w w2):=HB.out.trans (hb0.mono (Nat.le_of_lt hz));clear hb hb0))
   go_ret2
   exact ⟨rfl,HB2.out⟩
  ·have hO:okO o=true:=by rw [okO_some hk];exact hf
   have hw:=wr_yes hk hf;rw [show ckE o=0 by simp [ckE,hO]] at HC0;have HC:Hid _:=HC0
   cases hD:k.D
   ·rw [hD] at hw;rw [show wrD o=0 by simp [wrD,hw],hw];clear hk hw ho hO hf HC0;go_enter Tryz.func137,Tryz.ntmps137;go_wp2_with (first|(go_at_call 102;refine Calls.mono (HF.out _) ?_;rintro e w1 ⟨rfl,hb⟩;obtain ⟨a1,hb0,hz⟩:=one_new w _ _ hb;have HB:Hid (Below w.heap.size w w1):=hb0;have HO:Hid _:=a1;obtain ⟨o0,o1,o2,o3,o4⟩:=a1.o5;clear hb hb0 a1)|(go_at_call 134;refine Calls.mono (HC.out _) ?_;rintro e w2 ⟨rfl,hb⟩;obtain ⟨r1,hb0,hz2⟩:=one_new w1 _ _ hb;have HB2:Hid (Below w.heap.size w w2):=HB.out.trans (hb0.mono (Nat.le_of_lt hz));obtain ⟨c0,c1,c2,c3,c4,c5,c6⟩:=r1.r7;obtain ⟨o0,o1,o2,o3,o4⟩:=(HO.out.below hb0 hz).o5;clear hb hb0 r1))
    go_ret2
    exact ⟨rfl,HB2.out⟩
   ·rw [hD] at hw;rw [show wrD o=o.d by simp [wrD,hw],hw];clear hk hw ho hO hf HC0;go_enter Tryz.func137,Tryz.ntmps137;go_wp2_with (first|(go_at_call 102;refine Calls.mono (HF.out _) ?_;rintro e w1 ⟨rfl,hb⟩;obtain ⟨a1,hb0,hz⟩:=one_new w _ _ hb;have HB:Hid (Below w.heap.size w w1):=hb0;have HO:Hid _:=a1;obtain ⟨o0,o1,o2,o3,o4⟩:=a1.o5;clear hb hb0 a1)|(go_at_call 134;refine Calls.mono (HC.out _) ?_;rintro e w2 ⟨rfl,hb⟩;obtain ⟨r1,hb0,hz2⟩:=one_new w1 _ _ hb;have HB2:Hid (Below w.heap.size w w2):=HB.out.trans (hb0.mono (Nat.le_of_lt hz));obtain ⟨c0,c1,c2,c3,c4,c5,c6⟩:=r1.r7;obtain ⟨o0,o1,o2,o3,o4⟩:=(HO.out.below hb0 hz).o5;clear hb hb0 r1))
    go_ret2
    exact ⟨rfl,HB2.out⟩
def clB (d:Int):Bool:=match kOf d with|some k=>!(k.cls == -1)|none=>false
def clV (d:Int):Int:=match kOf d with|some k=>if k.cls == -1 then 0 else k.cls|none=>0
theorem cls_all:(kindL.all fun k=>decide (-1<=k.cls/\k.cls<=3))=true:=by decide
theorem cls_in {d:Int} {k:K} (h:kOf d=some k) : -1<=k.cls/\k.cls<=3:=by
 obtain ⟨n,hn,-,rfl⟩:=kOf_some h
 have:=List.all_eq_true.1 cls_all _ (List.getElem_mem (l:=kindL) hn)
 simpa using this
theorem class_any (d:Int) (w:World) (h0 : -128<=d) (h1:d<=127):Calls Tryz.prog 15 #[.int .i8 d] w fun e w'=>e=.returned (.tuple #[.int .i64 (clV d),.bool (clB d)])/\Below w.heap.size w w':=by
 cases hk:kOf d with
 | none=>
  rw [show clV d=0 by simp [clV,hk],show clB d=false by simp [clB,hk]];have HC:Hid _:=fun w=>kindOf_no d w h0 h1 hk;clear h0 h1 hk;go_enter Tryz.func15,Tryz.ntmps15;go_wp2_with (first|(go_at_call 39;refine Calls.mono (HC.out _) ?_;rintro e w1 ⟨rfl,hb⟩))
  go_ret2
  exact ⟨rfl,hb.trans ((Below.refl _ _).alloc hb.size _)⟩
 | some k=>
  have hc:=cls_in hk;have e1:clV d=if k.cls == -1 then 0 else k.cls:=by simp [clV,hk]
  have e2:clB d = !(k.cls == -1):=by simp [clB,hk]
  have HC:Hid _:=fun w=>kindOf_yes d k w hk;rw [e1,e2];clear h0 h1 hk e1 e2
  cases hm:(k.cls == -1)
  all_goals
   go_enter Tryz.func15,Tryz.ntmps15;go_wp2_with (first|(go_at_call 39;refine Calls.mono (HC.out _) ?_;rintro e w1 ⟨rfl,hb⟩))
   go_ret2
   exact ⟨rfl,hb.trans ((Below.refl _ _).alloc hb.size _)⟩
def rcN (k:K) (o:O):Nat:=if k.A then (if k.B && !(o.a==o.b) then 2 else 1) else 0
theorem readCount_any (k:K) (o:O) (w:World):Calls Tryz.prog 147 #[k.val,o.val] w fun e w'=>e=.returned (.int .i64 (rcN k o))/\Below w.heap.size w w':=by
 have HA:Hid _:=fun w=>cnt_A k w;have HC:Hid _:=fun w=>cnt_B k w;have hdef:rcN k o=if k.A then (if k.B && !(o.a==o.b) then 2 else 1) else 0:=rfl;rw [hdef];clear hdef
 cases hA:k.A
 ·rw [hA] at HA;go_enter Tryz.func147,Tryz.ntmps147;go_wp2_with (first|(go_at_call_of 146 (Value.int IntKind.u8 2);refine Calls.mono (HA.out _) ?_;rintro e w1 ⟨rfl,hb⟩;obtain ⟨-,-,hb0,hz,hz1⟩:=two_new w _ _ _ _ hb;clear hb))
  go_ret
  exact ⟨rfl,hb0⟩
 ·rw [hA] at HA
  cases hB:k.B
  ·rw [hB] at HC;go_enter Tryz.func147,Tryz.ntmps147;go_wp2_with (first|(go_at_call_of 146 (Value.int IntKind.u8 2);refine Calls.mono (HA.out _) ?_;rintro e w1 ⟨rfl,hb⟩;obtain ⟨a1,a2,hb0,hz,hz1⟩:=two_new w _ _ _ _ hb;obtain ⟨k0,k1,k2⟩:=a1.k3;have HB:Hid (Below w.heap.size w w1):=hb0;clear hb a1 a2 hb0)|(go_at_call_of 146 (Value.int IntKind.u8 4);refine Calls.mono (HC.out _) ?_;rintro e w2 ⟨rfl,hb⟩))
   go_ret
   exact ⟨rfl,HB.out.trans (hb.mono (Nat.le_of_lt hz))⟩
  ·rw [hB] at HC
   cases hE:(o.a==o.b)
   all_goals
    go_enter Tryz.func147,Tryz.ntmps147;go_wp2_with (first|(go_at_call_of 146 (Value.int IntKind.u8 2);refine Calls.mono (HA.out _) ?_;rintro e w1 ⟨rfl,hb⟩;obtain ⟨a1,a2,hb0,hz,hz1⟩:=two_new w _ _ _ _ hb;obtain ⟨k0,k1,k2⟩:=a1.k3;have HO:Hid _:=a2;have HB:Hid (Below w.heap.size w w1):=hb0;clear hb a1 a2 hb0)|(go_at_call_of 146 (Value.int IntKind.u8 4);refine Calls.mono (HC.out _) ?_;rintro e w2 ⟨rfl,hb⟩;obtain ⟨-,-,o2,o3,-⟩:=(HO.out.below hb hz1).o5))
    go_ret
    exact ⟨rfl,HB.out.trans (hb.mono (Nat.le_of_lt hz))⟩
theorem reads_yes (o:O) (k:K) (w:World) (hk:kOf o.op=some k) (hf:okF k o=true):Calls Tryz.prog 113 #[o.val] w fun e w'=>∃ b:Nat,e=.returned (.slice (some ⟨b,0,none⟩) (rcN k o) (rcN k o))/\At w' b #[.int .u8 o.a,.int .u8 o.b]/\Below w.heap.size w w':=by
 have HC:Hid _:=fun w=>checked_yes o k w hk hf;have HR:Hid _:=fun w=>readCount_any k o w;have hn:rcN k o=0\/rcN k o=1\/rcN k o=2:=by unfold rcN;split <;> (try split) <;> simp
 clear hk hf;rcases hn with hn|hn|hn
 all_goals
  rw [hn] at HR;rw [hn];clear hn;go_enter Tryz.func113,Tryz.ntmps113;go_wp2_with (first|(go_at_call 110;refine Calls.mono (HC.out _) ?_;rintro e w1 ⟨rfl,hb⟩;obtain ⟨a1,hb0,hz⟩:=one_new w _ _ hb;have HO:Hid _:=a1;obtain ⟨o0,o1,o2,o3,o4⟩:=a1.o5;have HB:Hid (Below w.heap.size w w1):=hb0;clear hb hb0 a1)|(go_at_call 147;refine Calls.mono (HR.out _) ?_;rintro e w2 ⟨rfl,hb⟩;obtain ⟨a1,a2,hb0,hz2,hz3⟩:=two_new w1 _ _ _ _ hb;have HA:Hid _:=a2;have HB2:Hid (Below w.heap.size w w2):=HB.out.trans (hb0.mono (Nat.le_of_lt hz));clear hb hb0 a1 a2))
  go_ret
  refine ⟨_,rfl,?_,HB2.out⟩;exact HA.out
def SlAt (w:World) (v:Value) (n:Nat) (f:Nat->Int):Prop:=
 (n=0/\∃ p c,v=.slice p 0 c)\/∃ b c:Nat,v=.slice (some ⟨b,0,none⟩) n c/\b<w.heap.size/\∀ j,j<n->w.cell? ⟨b,j,none⟩=some (.int .u8 (f j))
theorem SlAt.on {w w':World} {v:Value} {n:Nat} {f:Nat->Int} (h:SlAt w v n f) (hb:Below w.heap.size w w'):SlAt w' v n f:=by
 rcases h with h|⟨b,c,h1,h2,h3⟩
 ·exact .inl h
 ·exact .inr ⟨b,c,h1,Nat.lt_of_lt_of_le h2 hb.size,fun j hj=>by rw [(bcell hb).1 _ _ h2];exact h3 j hj⟩
theorem refClass_any (d:Int) (w:World):Calls Tryz.prog 54 #[.int .i8 d] w fun e w'=>e=.returned (.tuple #[.int .i64 (clV d),.bool (clB d)])/\Below w.heap.size w w':=by
 cases hk:kOf d with
 | none=>
  rw [show clV d=0 by simp [clV,hk],show clB d=false by simp [clB,hk]];have HC:Hid _:=fun w=>of_no d w hk;clear hk;go_enter Tryz.func54,Tryz.ntmps54;go_wp2_with (first|(go_at_call 102;refine Calls.mono (HC.out _) ?_;rintro e w1 ⟨rfl,hb⟩))
  go_ret2
  exact ⟨rfl,hb.trans ((Below.refl _ _).alloc hb.size _)⟩
 | some k=>
  have hc:=cls_in hk;have HC:Hid _:=fun w=>of_yes d k w hk
  by_cases hm:k.cls = -1
  ·rw [show clV d=0 by simp [clV,hk,hm],show clB d=false by simp [clB,hk,hm]];clear hk;have hm2:k.cls<0:=by omega
   go_enter Tryz.func54,Tryz.ntmps54;go_wp2_with (first|(go_at_call 102;refine Calls.mono (HC.out _) ?_;rintro e w1 ⟨rfl,hb⟩))
   go_ret2
   exact ⟨rfl,hb.trans ((Below.refl _ _).alloc hb.size _)⟩
  ·rw [show clV d=k.cls by simp [clV,hk,hm],show clB d=true by simp [clB,hk,hm]];clear hk;have hm2:¬ k.cls<0:=by omega
   go_enter Tryz.func54,Tryz.ntmps54;go_wp2_with (first|(go_at_call 102;refine Calls.mono (HC.out _) ?_;rintro e w1 ⟨rfl,hb⟩))
   go_ret2
   exact ⟨rfl,hb.trans ((Below.refl _ _).alloc hb.size _)⟩
structure Rs (w0:World) (rc:Array Value) (o:O) (rb:Nat) (w:World) (v:Value) (xs:List Int):Prop where
 lt0:w0.heap.size<rb
 oAt:At w w0.heap.size o.cells
 rAt:At w rb rc
 own:w.ownsRow (rb+1) 5 1 v xs.length (xs.map (Value.int .u8))
 bel:Below w0.heap.size w0 w
theorem Rs.put {w0:World} {k:Array Value} {o:O} {rb:Nat} {w w1:World} {v v1:Value} {xs:List Int} {s:Int} {ob:Obj} (h:Rs w0 k o rb w v xs) (hown:w1.ownsRow (rb+1) 5 1 v1 (xs.length+1) (xs.map (Value.int .u8)++[.int .u8 s])) (hg:(w.alloc ob).grownBy w1 v.ownBlock) :
  Rs w0 k o rb w1 v1 (xs++[s]):=by
 have h0:=h.lt0;have hb:Below (rb+1) w w1:=((Below.refl _ w).alloc (by have:=h.rAt.lt;omega) ob).grown hg (by have:=h.rAt.lt;simp;omega) (fun b hb=>(h.own.lt b hb).1);refine ⟨h0,h.oAt.below hb (by omega),h.rAt.below hb (by omega),?_,h.bel.trans (hb.mono (by omega))⟩;simpa using hown
theorem Rs.slAt {w0:World} {k:Array Value} {o:O} {rb:Nat} {w:World} {v:Value} {xs:List Int} {f:Nat->Int} {n:Nat} (h:Rs w0 k o rb w v xs) (hn:xs.length=n) (hf:∀ j,j<n->xs[j]?=some (f j)):SlAt w v n f:=by
 subst hn;rcases Nat.eq_zero_or_pos xs.length with h0|h0
 ·left
  refine ⟨h0,?_⟩;rcases h.own.2 with ⟨rfl,_⟩|⟨g,cap,cur,rfl,_⟩
  ·exact ⟨_,_,rfl⟩
  ·rw [h0];exact ⟨_,_,rfl⟩
 ·right
  have hown:=h.own;obtain ⟨g,cap,rfl,hg,hlt⟩:=hown.form h0;refine ⟨g,cap,rfl,hlt,fun j hj=>?_⟩;rw [hown.cellAt j (by omega)];simp [hf j hj]
theorem info5:(Tryz.prog.info? 5).map (fun i=>(i.zero,i.size,i.bytes))=some (some (.int .u8 0),1,1):=by kernel_rfl
def rf (o:O) (j:Nat):Int:=if j=0 then o.a else o.b
theorem refReads_0 (o:O) (k:K) (w:World) (ho:o.Ok) (hk:kOf o.op=some k) (hf:okF k o=true) (hA:k.A=false) (hB:k.B=false):Calls Tryz.prog 135 #[o.val] w fun e w'=>∃ v,e=.returned v/\SlAt w' v 0 (rf o)/\Below w.heap.size w w':=by
 have hO:okO o=true:=by rw [okO_some hk];exact hf
 have HC0:=fun w=>refCheck_any o w ho;rw [show ckE o=0 by simp [ckE,hO]] at HC0;have HC:Hid _:=HC0;have HF:Hid _:=fun w=>of_yes o.op k w hk;clear ho hO hf HC0 hk;obtain ⟨i0,hi,hi2⟩:=Option.map_eq_some_iff.1 info5;simp only [Prod.mk.injEq] at hi2;obtain ⟨hz0,hz1,hz2⟩:=hi2;have HI:Hid (Tryz.prog.info? 5=some i0/\i0.zero=some (.int .u8 0)/\i0.size=1/\i0.bytes=1):=⟨hi,hz0,hz1,hz2⟩;clear hi hz0 hz1 hz2;go_enter Tryz.func135,Tryz.ntmps135;go_wp2_with (first|(go_at_call 102;refine Calls.mono (HF.out _) ?_;rintro e w1 ⟨rfl,hb⟩;obtain ⟨a1,hb0,hz⟩:=one_new w _ _ hb;have HB:Hid (Below w.heap.size w w1):=hb0;have HO:Hid _:=a1;obtain ⟨o0,o1,o2,o3,o4⟩:=a1.o5;clear hb hb0 a1)|(go_at_call 134;refine Calls.mono (HC.out _) ?_;rintro e w2 ⟨rfl,hb⟩;obtain ⟨r1,hb0,hz2⟩:=one_new w1 _ _ hb;have HS:Hid (Rs w _ o w1.heap.size w2 (.slice none 0 0) []):=⟨hz,HO.out.below hb0 hz,r1,World.ownsRow_nil _ _ _ _,HB.out.trans (hb0.mono (Nat.le_of_lt hz))⟩;obtain ⟨c0,c1,c2,c3,c4,c5,c6⟩:=HS.out.rAt.r7;obtain ⟨o0,o1,o2,o3,o4⟩:=HS.out.oAt.o5;have hzr:=HS.out.rAt.lt;have hzo:=HS.out.oAt.lt;clear hb hb0 r1)|(at_builtin;refine wpList_append_lies _ rfl _ _ 163 rfl (w1.heap.size+1) 5 i0 (.int .u8 0) 1 1 Tryz.underlying163 HI.out.1 HI.out.2.1 HI.out.2.2.1 HI.out.2.2.2 rfl (by decide) _ _ _ rfl (HS.out.own.alloc _) ⟨w2.heap.size,0,none⟩ 1 1 [.int .u8 _] rfl rfl (World.news_of_block (heap_alloc_new w2 _)) (by simp [Value.oneCell']) (by decide) (by unfold maxLen;simp) (by simp) (by have:=HS.out.rAt.lt;simp;omega) (w2.heap.size+1) (by simp) ?_;intro g cap w2 hown1 hgrow hat hlt3;have HS:Hid (Rs w _ o w1.heap.size w2 _ _):=HS.out.put hown1 hgrow;obtain ⟨c0,c1,c2,c3,c4,c5,c6⟩:=HS.out.rAt.r7;obtain ⟨o0,o1,o2,o3,o4⟩:=HS.out.oAt.o5;have hzr:=HS.out.rAt.lt;have hzo:=HS.out.oAt.lt;clear hown1 hgrow hat hlt3))
 go_ret
 refine ⟨_,rfl,HS.out.slAt rfl (fun j hj=>?_),HS.out.bel⟩
 match j,hj with
 | _+0,h=>exact absurd h (by simp)
theorem refReads_1 (o:O) (k:K) (w:World) (ho:o.Ok) (hk:kOf o.op=some k) (hf:okF k o=true) (hA:k.A=true) (hB:k.B=false):Calls Tryz.prog 135 #[o.val] w fun e w'=>∃ v,e=.returned v/\SlAt w' v 1 (rf o)/\Below w.heap.size w w':=by
 have hO:okO o=true:=by rw [okO_some hk];exact hf
 have HC0:=fun w=>refCheck_any o w ho;rw [show ckE o=0 by simp [ckE,hO]] at HC0;have HC:Hid _:=HC0;have HF:Hid _:=fun w=>of_yes o.op k w hk;clear ho hO hf HC0 hk;obtain ⟨i0,hi,hi2⟩:=Option.map_eq_some_iff.1 info5;simp only [Prod.mk.injEq] at hi2;obtain ⟨hz0,hz1,hz2⟩:=hi2;have HI:Hid (Tryz.prog.info? 5=some i0/\i0.zero=some (.int .u8 0)/\i0.size=1/\i0.bytes=1):=⟨hi,hz0,hz1,hz2⟩;clear hi hz0 hz1 hz2;go_enter Tryz.func135,Tryz.ntmps135;go_wp2_with (first|(go_at_call 102;refine Calls.mono (HF.out _) ?_;rintro e w1 ⟨rfl,hb⟩;obtain ⟨a1,hb0,hz⟩:=one_new w _ _ hb;have HB:Hid (Below w.heap.size w w1):=hb0;have HO:Hid _:=a1;obtain ⟨o0,o1,o2,o3,o4⟩:=a1.o5;clear hb hb0 a1)|(go_at_call 134;refine Calls.mono (HC.out _) ?_;rintro e w2 ⟨rfl,hb⟩;obtain ⟨r1,hb0,hz2⟩:=one_new w1 _ _ hb;have HS:Hid (Rs w _ o w1.heap.size w2 (.slice none 0 0) []):=⟨hz,HO.out.below hb0 hz,r1,World.ownsRow_nil _ _ _ _,HB.out.trans (hb0.mono (Nat.le_of_lt hz))⟩;obtain ⟨c0,c1,c2,c3,c4,c5,c6⟩:=HS.out.rAt.r7;obtain ⟨o0,o1,o2,o3,o4⟩:=HS.out.oAt.o5;have hzr:=HS.out.rAt.lt;have hzo:=HS.out.oAt.lt;clear hb hb0 r1)|(at_builtin;refine wpList_append_lies _ rfl _ _ 163 rfl (w1.heap.size+1) 5 i0 (.int .u8 0) 1 1 Tryz.underlying163 HI.out.1 HI.out.2.1 HI.out.2.2.1 HI.out.2.2.2 rfl (by decide) _ _ _ rfl (HS.out.own.alloc _) ⟨w2.heap.size,0,none⟩ 1 1 [.int .u8 _] rfl rfl (World.news_of_block (heap_alloc_new w2 _)) (by simp [Value.oneCell']) (by decide) (by unfold maxLen;simp) (by simp) (by have:=HS.out.rAt.lt;simp;omega) (w2.heap.size+1) (by simp) ?_;intro g cap w2 hown1 hgrow hat hlt3;have HS:Hid (Rs w _ o w1.heap.size w2 _ _):=HS.out.put hown1 hgrow;obtain ⟨c0,c1,c2,c3,c4,c5,c6⟩:=HS.out.rAt.r7;obtain ⟨o0,o1,o2,o3,o4⟩:=HS.out.oAt.o5;have hzr:=HS.out.rAt.lt;have hzo:=HS.out.oAt.lt;clear hown1 hgrow hat hlt3))
 go_ret
 refine ⟨_,rfl,HS.out.slAt rfl (fun j hj=>?_),HS.out.bel⟩
 match j,hj with
 | 0,_=>rfl
theorem refReads_1e (o:O) (k:K) (w:World) (ho:o.Ok) (hk:kOf o.op=some k) (hf:okF k o=true) (hA:k.A=true) (hB:k.B=true) (hE:(o.b==o.a)=true):Calls Tryz.prog 135 #[o.val] w fun e w'=>∃ v,e=.returned v/\SlAt w' v 1 (rf o)/\Below w.heap.size w w':=by
 have hO:okO o=true:=by rw [okO_some hk];exact hf
 have HC0:=fun w=>refCheck_any o w ho;rw [show ckE o=0 by simp [ckE,hO]] at HC0;have HC:Hid _:=HC0;have HF:Hid _:=fun w=>of_yes o.op k w hk;clear ho hO hf HC0 hk;obtain ⟨i0,hi,hi2⟩:=Option.map_eq_some_iff.1 info5;simp only [Prod.mk.injEq] at hi2;obtain ⟨hz0,hz1,hz2⟩:=hi2;have HI:Hid (Tryz.prog.info? 5=some i0/\i0.zero=some (.int .u8 0)/\i0.size=1/\i0.bytes=1):=⟨hi,hz0,hz1,hz2⟩;clear hi hz0 hz1 hz2;go_enter Tryz.func135,Tryz.ntmps135;go_wp2_with (first|(go_at_call 102;refine Calls.mono (HF.out _) ?_;rintro e w1 ⟨rfl,hb⟩;obtain ⟨a1,hb0,hz⟩:=one_new w _ _ hb;have HB:Hid (Below w.heap.size w w1):=hb0;have HO:Hid _:=a1;obtain ⟨o0,o1,o2,o3,o4⟩:=a1.o5;clear hb hb0 a1)|(go_at_call 134;refine Calls.mono (HC.out _) ?_;rintro e w2 ⟨rfl,hb⟩;obtain ⟨r1,hb0,hz2⟩:=one_new w1 _ _ hb;have HS:Hid (Rs w _ o w1.heap.size w2 (.slice none 0 0) []):=⟨hz,HO.out.below hb0 hz,r1,World.ownsRow_nil _ _ _ _,HB.out.trans (hb0.mono (Nat.le_of_lt hz))⟩;obtain ⟨c0,c1,c2,c3,c4,c5,c6⟩:=HS.out.rAt.r7;obtain ⟨o0,o1,o2,o3,o4⟩:=HS.out.oAt.o5;have hzr:=HS.out.rAt.lt;have hzo:=HS.out.oAt.lt;clear hb hb0 r1)|(at_builtin;refine wpList_append_lies _ rfl _ _ 163 rfl (w1.heap.size+1) 5 i0 (.int .u8 0) 1 1 Tryz.underlying163 HI.out.1 HI.out.2.1 HI.out.2.2.1 HI.out.2.2.2 rfl (by decide) _ _ _ rfl (HS.out.own.alloc _) ⟨w2.heap.size,0,none⟩ 1 1 [.int .u8 _] rfl rfl (World.news_of_block (heap_alloc_new w2 _)) (by simp [Value.oneCell']) (by decide) (by unfold maxLen;simp) (by simp) (by have:=HS.out.rAt.lt;simp;omega) (w2.heap.size+1) (by simp) ?_;intro g cap w2 hown1 hgrow hat hlt3;have HS:Hid (Rs w _ o w1.heap.size w2 _ _):=HS.out.put hown1 hgrow;obtain ⟨c0,c1,c2,c3,c4,c5,c6⟩:=HS.out.rAt.r7;obtain ⟨o0,o1,o2,o3,o4⟩:=HS.out.oAt.o5;have hzr:=HS.out.rAt.lt;have hzo:=HS.out.oAt.lt;clear hown1 hgrow hat hlt3))
 go_ret
 refine ⟨_,rfl,HS.out.slAt rfl (fun j hj=>?_),HS.out.bel⟩
 match j,hj with
 | 0,_=>rfl
theorem refReads_2 (o:O) (k:K) (w:World) (ho:o.Ok) (hk:kOf o.op=some k) (hf:okF k o=true) (hA:k.A=true) (hB:k.B=true) (hE:(o.b==o.a)=false):Calls Tryz.prog 135 #[o.val] w fun e w'=>∃ v,e=.returned v/\SlAt w' v 2 (rf o)/\Below w.heap.size w w':=by
 have hO:okO o=true:=by rw [okO_some hk];exact hf
 have HC0:=fun w=>refCheck_any o w ho;rw [show ckE o=0 by simp [ckE,hO]] at HC0;have HC:Hid _:=HC0;have HF:Hid _:=fun w=>of_yes o.op k w hk;clear ho hO hf HC0 hk;obtain ⟨i0,hi,hi2⟩:=Option.map_eq_some_iff.1 info5;simp only [Prod.mk.injEq] at hi2;obtain ⟨hz0,hz1,hz2⟩:=hi2;have HI:Hid (Tryz.prog.info? 5=some i0/\i0.zero=some (.int .u8 0)/\i0.size=1/\i0.bytes=1):=⟨hi,hz0,hz1,hz2⟩;clear hi hz0 hz1 hz2;go_enter Tryz.func135,Tryz.ntmps135;go_wp2_with (first|(go_at_call 102;refine Calls.mono (HF.out _) ?_;rintro e w1 ⟨rfl,hb⟩;obtain ⟨a1,hb0,hz⟩:=one_new w _ _ hb;have HB:Hid (Below w.heap.size w w1):=hb0;have HO:Hid _:=a1;obtain ⟨o0,o1,o2,o3,o4⟩:=a1.o5;clear hb hb0 a1)|(go_at_call 134;refine Calls.mono (HC.out _) ?_;rintro e w2 ⟨rfl,hb⟩;obtain ⟨r1,hb0,hz2⟩:=one_new w1 _ _ hb;have HS:Hid (Rs w _ o w1.heap.size w2 (.slice none 0 0) []):=⟨hz,HO.out.below hb0 hz,r1,World.ownsRow_nil _ _ _ _,HB.out.trans (hb0.mono (Nat.le_of_lt hz))⟩;obtain ⟨c0,c1,c2,c3,c4,c5,c6⟩:=HS.out.rAt.r7;obtain ⟨o0,o1,o2,o3,o4⟩:=HS.out.oAt.o5;have hzr:=HS.out.rAt.lt;have hzo:=HS.out.oAt.lt;clear hb hb0 r1)|(at_builtin;refine wpList_append_lies _ rfl _ _ 163 rfl (w1.heap.size+1) 5 i0 (.int .u8 0) 1 1 Tryz.underlying163 HI.out.1 HI.out.2.1 HI.out.2.2.1 HI.out.2.2.2 rfl (by decide) _ _ _ rfl (HS.out.own.alloc _) ⟨w2.heap.size,0,none⟩ 1 1 [.int .u8 _] rfl rfl (World.news_of_block (heap_alloc_new w2 _)) (by simp [Value.oneCell']) (by decide) (by unfold maxLen;simp) (by simp) (by have:=HS.out.rAt.lt;simp;omega) (w2.heap.size+1) (by simp) ?_;intro g cap w2 hown1 hgrow hat hlt3;have HS:Hid (Rs w _ o w1.heap.size w2 _ _):=HS.out.put hown1 hgrow;obtain ⟨c0,c1,c2,c3,c4,c5,c6⟩:=HS.out.rAt.r7;obtain ⟨o0,o1,o2,o3,o4⟩:=HS.out.oAt.o5;have hzr:=HS.out.rAt.lt;have hzo:=HS.out.oAt.lt;clear hown1 hgrow hat hlt3))
 go_ret
 refine ⟨_,rfl,HS.out.slAt rfl (fun j hj=>?_),HS.out.bel⟩
 match j,hj with
 | 0,_=>rfl
 | 1,_=>rfl
theorem refReads_yes (o:O) (k:K) (w:World) (ho:o.Ok) (hk:kOf o.op=some k) (hf:okF k o=true) (hBA:k.A=false->k.B=false):Calls Tryz.prog 135 #[o.val] w fun e w'=>∃ v,e=.returned v/\SlAt w' v (rcN k o) (rf o)/\Below w.heap.size w w':=by
 have hc:(o.b==o.a)=(o.a==o.b):=by rw [Bool.eq_iff_iff];simp;omega
 cases hA:k.A
 ·rw [show rcN k o=0 by simp [rcN,hA]];exact refReads_0 o k w ho hk hf hA (hBA hA)
 ·cases hB:k.B
  ·rw [show rcN k o=1 by simp [rcN,hA,hB]];exact refReads_1 o k w ho hk hf hA hB
  ·cases hE:(o.b==o.a)
   ·rw [show rcN k o=2 by simp [rcN,hA,hB,<- hc,hE]];exact refReads_2 o k w ho hk hf hA hB hE
   ·rw [show rcN k o=1 by simp [rcN,hA,hB,<- hc,hE]];exact refReads_1e o k w ho hk hf hA hB hE
end Go.Proofs.YtiejdpjgplikjaaGreatDoor.Op
