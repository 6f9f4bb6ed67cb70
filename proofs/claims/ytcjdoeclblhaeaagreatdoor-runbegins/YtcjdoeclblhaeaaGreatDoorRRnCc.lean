/- -/
import Derived.Test.YtcjdoeclblhaeaaGreatDoorRRnB
set_option maxHeartbeats 4000000
set_option maxRecDepth 100000
namespace Go.Proofs.YtcjdoeclblhaeaaGreatDoor.Rn
open Go.RowKit Pa Vs
theorem call4 (v:List UInt8) (ws:List (List UInt8)) (w:World) (b cap:Nat) (R:Rv w) (h:Wd w b 2 ws) (hm:ws.length=3) (n:Int) (hp:adW (wd ws 1)=.ok n)
  (h1:¬ (v=[110,101,116]/\3=2)) (h2:¬ (v=[97,100,100]/\3=3)) (h3:¬ (v=[116,97,107,101]/\3=2)) (h4:v=[112,108,97,99,101]/\3=3) :
  Calls Tryz.prog 50 #[.string ⟨v.toArray⟩,.slice (some ⟨b,2,none⟩) 3 cap] w fun e w'=>e=.returned (clV ⟨4,txt (wd ws 0),(0,0),0,n,txt (wd ws 2)⟩)/\Below w.heap.size w w':=by
 have b0:=below_al (below_self w) zCall
 have hW:=h.step b0
 have k0:=hW.two (j:=0) (by omega) 2 rfl
 have k1:=hW.two (j:=1) (by omega) 3 rfl
 have k2:=hW.two (j:=2) (by omega) 4 rfl
 have KP:=fun W RW=>address_ok (wd ws 1) n W RW (h.len 1) hp
 clear hp
 have R0:=R.step b0
 have zc:=Zc.new w
 have gq:=eqGuard_row
 have E1:∀ W,(Op.equalIn 10000 150 (.agg #[.string ⟨v.toArray⟩,.int .i64 3]) (.agg #[.string ⟨#[110,101,116]⟩,.int .i64 2])).run Tryz.prog W=.ok false W:=fun W=>rowRun (v:=v) (t:=[110,101,116]) (m:=3) (k:=2) (b:=false) (decide_eq_false h1) W
 have E2:∀ W,(Op.equalIn 10000 150 (.agg #[.string ⟨v.toArray⟩,.int .i64 3]) (.agg #[.string ⟨#[97,100,100]⟩,.int .i64 3])).run Tryz.prog W=.ok false W:=fun W=>rowRun (v:=v) (t:=[97,100,100]) (m:=3) (k:=3) (b:=false) (decide_eq_false h2) W
 have E3:∀ W,(Op.equalIn 10000 150 (.agg #[.string ⟨v.toArray⟩,.int .i64 3]) (.agg #[.string ⟨#[116,97,107,101]⟩,.int .i64 2])).run Tryz.prog W=.ok false W:=fun W=>rowRun (v:=v) (t:=[116,97,107,101]) (m:=3) (k:=2) (b:=false) (decide_eq_false h3) W
 have E4:∀ W,(Op.equalIn 10000 150 (.agg #[.string ⟨v.toArray⟩,.int .i64 3]) (.agg #[.string ⟨#[112,108,97,99,101]⟩,.int .i64 3])).run Tryz.prog W=.ok true W:=fun W=>rowRun (v:=v) (t:=[112,108,97,99,101]) (m:=3) (k:=3) (b:=true) (decide_eq_true h4) W
 have n1:¬ b=w.heap.size:=by have:=h.lt;omega
 have n2:¬ w.heap.size=b:=by have:=h.lt;omega
 clear h1 h2 h3 h4 h hW hm R
 generalize (wd ws 0)=x0 at *
 generalize (wd ws 1)=x1 at *
 generalize (wd ws 2)=x2 at *
 go_enter Tryz.func50,Tryz.ntmps50
 go_wp2
 go_region_held3 (fun w2=>w2.cell? ⟨b,2,none⟩=some (.string ⟨x0.toArray⟩)/\w2.cell? ⟨b,3,none⟩=some (.string ⟨x1.toArray⟩)/\w2.cell? ⟨b,4,none⟩=some (.string ⟨x2.toArray⟩)) (go_simp)
  (first|(go_at_call 81;refine (KP _ (by first|exact R0|exact R0.step (below_self _).drew)).mono ?_;rintro e w1 ⟨rfl,hb1⟩;have k0':=cell_lat hb1 k0;have k1':=cell_lat hb1 k1;have k2':=cell_lat hb1 k2;have zc1:=zc.step (w':=w1) (by first|exact hb1|exact below_via (below_self _).drew hb1);obtain⟨c0,c1,c2,c3,c4,c5,c6,z0,z1,z2,z3,z4,z5,z6⟩:=id zc1))
 go_wp2
 obtain⟨W,hW,q0,q1,q2,q3,q4,q5,q6,hB⟩:=zc_put zc1 (.int .i64 4) (.string ⟨x0.toArray⟩) (.int .i64 0) (.int .i64 0) (.int .i64 0) (.int .i64 n) (.string ⟨x2.toArray⟩)
 rw[hW]
 exact bodyPost_ret (v:=clV ⟨4,txt x0,(0,0),0,n,txt x2⟩) (by simp[results,Tryz.results50,go_sem,txt,q0,q1,q2,q3,q4,q5,q6]) rfl ⟨rfl,(below_via b0.drew hb1).trans (hB _ (Nat.le_refl _))⟩
theorem call4e (v:List UInt8) (ws:List (List UInt8)) (w:World) (b cap:Nat) (R:Rv w) (h:Wd w b 2 ws) (hm:ws.length=3) (f:Int) (hp:adW (wd ws 1)=.error f)
  (h1:¬ (v=[110,101,116]/\3=2)) (h2:¬ (v=[97,100,100]/\3=3)) (h3:¬ (v=[116,97,107,101]/\3=2)) (h4:v=[112,108,97,99,101]/\3=3) :
  Calls Tryz.prog 50 #[.string ⟨v.toArray⟩,.slice (some ⟨b,2,none⟩) 3 cap] w fun e w'=>e=.panicked (thC f)/\Below w.heap.size w w':=by
 have b0:=below_al (below_self w) zCall
 have hW:=h.step b0
 have k0:=hW.two (j:=0) (by omega) 2 rfl
 have k1:=hW.two (j:=1) (by omega) 3 rfl
 have k2:=hW.two (j:=2) (by omega) 4 rfl
 have KP:=fun W RW=>(address_no (wd ws 1) f W RW (h.len 1) hp).2
 clear hp
 have R0:=R.step b0
 have zc:=Zc.new w
 have gq:=eqGuard_row
 have E1:∀ W,(Op.equalIn 10000 150 (.agg #[.string ⟨v.toArray⟩,.int .i64 3]) (.agg #[.string ⟨#[110,101,116]⟩,.int .i64 2])).run Tryz.prog W=.ok false W:=fun W=>rowRun (v:=v) (t:=[110,101,116]) (m:=3) (k:=2) (b:=false) (decide_eq_false h1) W
 have E2:∀ W,(Op.equalIn 10000 150 (.agg #[.string ⟨v.toArray⟩,.int .i64 3]) (.agg #[.string ⟨#[97,100,100]⟩,.int .i64 3])).run Tryz.prog W=.ok false W:=fun W=>rowRun (v:=v) (t:=[97,100,100]) (m:=3) (k:=3) (b:=false) (decide_eq_false h2) W
 have E3:∀ W,(Op.equalIn 10000 150 (.agg #[.string ⟨v.toArray⟩,.int .i64 3]) (.agg #[.string ⟨#[116,97,107,101]⟩,.int .i64 2])).run Tryz.prog W=.ok false W:=fun W=>rowRun (v:=v) (t:=[116,97,107,101]) (m:=3) (k:=2) (b:=false) (decide_eq_false h3) W
 have E4:∀ W,(Op.equalIn 10000 150 (.agg #[.string ⟨v.toArray⟩,.int .i64 3]) (.agg #[.string ⟨#[112,108,97,99,101]⟩,.int .i64 3])).run Tryz.prog W=.ok true W:=fun W=>rowRun (v:=v) (t:=[112,108,97,99,101]) (m:=3) (k:=3) (b:=true) (decide_eq_true h4) W
 have n1:¬ b=w.heap.size:=by have:=h.lt;omega
 have n2:¬ w.heap.size=b:=by have:=h.lt;omega
 clear h1 h2 h3 h4 h hW hm R
 generalize (wd ws 0)=x0 at *
 generalize (wd ws 1)=x1 at *
 generalize (wd ws 2)=x2 at *
 generalize hth:thC f=th at *
 go_enter Tryz.func50,Tryz.ntmps50
 go_wp2
 refine wp_region_held_drew (S:=(fun w2=>w2.cell? ⟨b,2,none⟩=some (.string ⟨x0.toArray⟩)/\w2.cell? ⟨b,3,none⟩=some (.string ⟨x1.toArray⟩)/\w2.cell? ⟨b,4,none⟩=some (.string ⟨x2.toArray⟩))) (by kernel_rfl) (by exact⟨k0,k1,k2⟩) (fun hHeld0=>?_)
 refine wpAnyH_take (i:=0) (oi:=⟨_,_,_,_,_,_⟩) (v:=?_) rfl (by kernel_rfl) (by kernel_rfl) (by kernel_rfl) (fun _ _ _ h=>h) (Or.inl ⟨by rfl,?_⟩) (by assumption) ?_
 rotate_left
 ·(intro w hSw;(try dsimp only at hSw);go_simp;try with_reducible rfl)
 try simp only [Act.put,List.setIfInBounds_toArray,List.set_cons_zero,List.set_cons_succ]
 refine wpAnyH_take (i:=1) (oi:=⟨_,_,_,_,_,_⟩) (v:=?_) rfl (by kernel_rfl) (by kernel_rfl) (by kernel_rfl) (fun _ _ _ h=>h) (Or.inl ⟨by rfl,?_⟩) (by assumption) ?_
 rotate_left
 ·(intro w hSw;(try dsimp only at hSw);go_simp;try with_reducible rfl)
 try simp only [Act.put,List.setIfInBounds_toArray,List.set_cons_zero,List.set_cons_succ]
 refine wpAnyH_take (i:=2) (oi:=⟨_,_,_,_,_,_⟩) (v:=?_) rfl (by kernel_rfl) (by kernel_rfl) (by kernel_rfl) (fun _ _ _ h=>h) (Or.inl ⟨by rfl,?_⟩) (by assumption) ?_
 rotate_left
 ·(intro w hSw;(try dsimp only at hSw);go_simp;try with_reducible rfl)
 try simp only [Act.put,List.setIfInBounds_toArray,List.set_cons_zero,List.set_cons_succ]
 refine wpAnyH_take (i:=3) (oi:=⟨_,_,_,_,_,_⟩) (v:=?_) rfl (by kernel_rfl) (by kernel_rfl) (by kernel_rfl) (fun _ _ _ h=>h) (Or.inl ⟨by rfl,?_⟩) (by assumption) ?_
 rotate_left
 ·(intro w hSw;(try dsimp only at hSw);go_simp;try with_reducible rfl)
 try simp only [Act.put,List.setIfInBounds_toArray,List.set_cons_zero,List.set_cons_succ]
 refine wpAnyH_take (i:=4) (oi:=⟨_,_,_,_,_,_⟩) (v:=?_) rfl (by kernel_rfl) (by kernel_rfl) (by kernel_rfl) (fun _ _ _ h=>h) (Or.inl ⟨by rfl,?_⟩) (by assumption) ?_
 rotate_left
 ·(intro w hSw;(try dsimp only at hSw);go_simp;try with_reducible rfl)
 try simp only [Act.put,List.setIfInBounds_toArray,List.set_cons_zero,List.set_cons_succ]
 refine wpAnyH_take (i:=5) (oi:=⟨_,_,_,_,_,_⟩) (v:=?_) rfl (by kernel_rfl) (by kernel_rfl) (by kernel_rfl) (fun _ _ _ h=>h) (Or.inl ⟨by rfl,?_⟩) (by assumption) ?_
 rotate_left
 ·(intro w hSw;(try dsimp only at hSw);go_simp;try with_reducible rfl)
 try simp only [Act.put,List.setIfInBounds_toArray,List.set_cons_zero,List.set_cons_succ]
 refine wpAnyH_take (i:=7) (oi:=⟨_,_,_,_,_,_⟩) (v:=?_) rfl (by kernel_rfl) (by kernel_rfl) (by kernel_rfl) (fun _ _ _ h=>h) (Or.inl ⟨by rfl,?_⟩) (by assumption) ?_
 rotate_left
 ·(intro w hSw;(try dsimp only at hSw);go_simp;try with_reducible rfl)
 try simp only [Act.put,List.setIfInBounds_toArray,List.set_cons_zero,List.set_cons_succ]
 refine wpAnyH_take (i:=8) (oi:=⟨_,_,_,_,_,_⟩) (v:=?_) rfl (by kernel_rfl) (by kernel_rfl) (by kernel_rfl) (fun _ _ _ h=>h) (Or.inl ⟨by rfl,?_⟩) (by assumption) ?_
 rotate_left
 ·(intro w hSw;(try dsimp only at hSw);go_simp;try with_reducible rfl)
 try simp only [Act.put,List.setIfInBounds_toArray,List.set_cons_zero,List.set_cons_succ]
 refine wpAnyH_take (i:=9) (oi:=⟨_,_,_,_,_,_⟩) (v:=?_) rfl (by kernel_rfl) (by kernel_rfl) (by kernel_rfl) (fun _ _ _ h=>h) (Or.inl ⟨by rfl,?_⟩) (by assumption) ?_
 rotate_left
 ·(intro w hSw;(try dsimp only at hSw);go_simp;try with_reducible rfl)
 try simp only [Act.put,List.setIfInBounds_toArray,List.set_cons_zero,List.set_cons_succ]
 refine wpAnyH_ready (rs:=[6]) (by kernel_rfl) (by simp) ?_
 refine AllReadyH.cons (o:=⟨_,_,_,_,_,_⟩) rfl (fun K hK=>?_) AllReadyH.nil
 go_simp
 go_at_call 81
 refine (KP _ (by first|exact R0|exact R0.step (below_self _).drew)).mono ?_
 rintro e w1 ⟨rfl,hb1⟩
 exact⟨rfl,rfl,below_via b0.drew hb1⟩
end Go.Proofs.YtcjdoeclblhaeaaGreatDoor.Rn
namespace Go.Proofs.YtcjdoeclblhaeaaGreatDoor.Rn
open Go.RowKit Pa Vs
theorem call6 (v:List UInt8) (ws:List (List UInt8)) (w:World) (b cap:Nat) (R:Rv w) (h:Wd w b 2 ws) (hm:ws.length=4) (n:Int) (p:Bur.Sp) (hn:nmW (wd ws 2)=.ok n) (hp:pfW (wd ws 1)=.ok p)
  (h1:¬ (v=[110,101,116]/\4=2)) (h2:¬ (v=[97,100,100]/\4=3)) (h3:¬ (v=[116,97,107,101]/\4=2)) (h4:¬ (v=[112,108,97,99,101]/\4=3)) (h5:¬ (v=[108,101,97,118,101]/\4=2)) (h6:v=[110,101,120,116]/\4=4) :
  Calls Tryz.prog 50 #[.string ⟨v.toArray⟩,.slice (some ⟨b,2,none⟩) 4 cap] w fun e w'=>e=.returned (clV ⟨6,txt (wd ws 0),p,n,0,txt (wd ws 3)⟩)/\Below w.heap.size w w':=by
 have b0:=below_al (below_self w) zCall
 have hW:=h.step b0
 have k0:=hW.two (j:=0) (by omega) 2 rfl
 have k1:=hW.two (j:=1) (by omega) 3 rfl
 have k2:=hW.two (j:=2) (by omega) 4 rfl
 have k3:=hW.two (j:=3) (by omega) 5 rfl
 have KN:=fun W RW=>number_ok (wd ws 2) n W RW (h.len 2) hn
 have KP:=fun W RW=>prefix_ok (wd ws 1) p W RW (h.len 1) hp
 clear hn hp
 obtain⟨p1,p2⟩:=p
 have R0:=R.step b0
 have zc:=Zc.new w
 have gq:=eqGuard_row
 have E1:∀ W,(Op.equalIn 10000 150 (.agg #[.string ⟨v.toArray⟩,.int .i64 4]) (.agg #[.string ⟨#[110,101,116]⟩,.int .i64 2])).run Tryz.prog W=.ok false W:=fun W=>rowRun (v:=v) (t:=[110,101,116]) (m:=4) (k:=2) (b:=false) (decide_eq_false h1) W
 have E2:∀ W,(Op.equalIn 10000 150 (.agg #[.string ⟨v.toArray⟩,.int .i64 4]) (.agg #[.string ⟨#[97,100,100]⟩,.int .i64 3])).run Tryz.prog W=.ok false W:=fun W=>rowRun (v:=v) (t:=[97,100,100]) (m:=4) (k:=3) (b:=false) (decide_eq_false h2) W
 have E3:∀ W,(Op.equalIn 10000 150 (.agg #[.string ⟨v.toArray⟩,.int .i64 4]) (.agg #[.string ⟨#[116,97,107,101]⟩,.int .i64 2])).run Tryz.prog W=.ok false W:=fun W=>rowRun (v:=v) (t:=[116,97,107,101]) (m:=4) (k:=2) (b:=false) (decide_eq_false h3) W
 have E4:∀ W,(Op.equalIn 10000 150 (.agg #[.string ⟨v.toArray⟩,.int .i64 4]) (.agg #[.string ⟨#[112,108,97,99,101]⟩,.int .i64 3])).run Tryz.prog W=.ok false W:=fun W=>rowRun (v:=v) (t:=[112,108,97,99,101]) (m:=4) (k:=3) (b:=false) (decide_eq_false h4) W
 have E5:∀ W,(Op.equalIn 10000 150 (.agg #[.string ⟨v.toArray⟩,.int .i64 4]) (.agg #[.string ⟨#[108,101,97,118,101]⟩,.int .i64 2])).run Tryz.prog W=.ok false W:=fun W=>rowRun (v:=v) (t:=[108,101,97,118,101]) (m:=4) (k:=2) (b:=false) (decide_eq_false h5) W
 have E6:∀ W,(Op.equalIn 10000 150 (.agg #[.string ⟨v.toArray⟩,.int .i64 4]) (.agg #[.string ⟨#[110,101,120,116]⟩,.int .i64 4])).run Tryz.prog W=.ok true W:=fun W=>rowRun (v:=v) (t:=[110,101,120,116]) (m:=4) (k:=4) (b:=true) (decide_eq_true h6) W
 have n1:¬ b=w.heap.size:=by have:=h.lt;omega
 have n2:¬ w.heap.size=b:=by have:=h.lt;omega
 clear h1 h2 h3 h4 h5 h6 h hW hm R
 generalize (wd ws 0)=x0 at *
 generalize (wd ws 1)=x1 at *
 generalize (wd ws 2)=x2 at *
 generalize (wd ws 3)=x3 at *
 go_enter Tryz.func50,Tryz.ntmps50
 go_wp2_with (go_at_call 48;refine (KN _ R0).mono ?_;rintro e w2 ⟨rfl,hb2⟩;have l0:=cell_lat hb2 k0;have l1:=cell_lat hb2 k1;have l2:=cell_lat hb2 k2;have l3:=cell_lat hb2 k3;have R2:=R0.step hb2;have zc2:=zc.step hb2)
 go_region_held3 (fun w2=>w2.cell? ⟨b,2,none⟩=some (.string ⟨x0.toArray⟩)/\w2.cell? ⟨b,3,none⟩=some (.string ⟨x1.toArray⟩)/\w2.cell? ⟨b,4,none⟩=some (.string ⟨x2.toArray⟩)/\w2.cell? ⟨b,5,none⟩=some (.string ⟨x3.toArray⟩)) (go_simp)
  (first|(go_at_call 80;refine (KP _ (by first|exact R2|exact R2.step (below_self _).drew)).mono ?_;rintro e w3 ⟨rfl,hb3⟩;have m0:=cell_lat hb3 l0;have m1:=cell_lat hb3 l1;have m2:=cell_lat hb3 l2;have m3:=cell_lat hb3 l3;have zc1:=zc2.step (w':=w3) (by first|exact hb3|exact below_via (below_self _).drew hb3);obtain⟨c0,c1,c2,c3,c4,c5,c6,z0,z1,z2,z3,z4,z5,z6⟩:=id zc1))
 go_wp2
 obtain⟨W,hW,q0,q1,q2,q3,q4,q5,q6,hB⟩:=zc_put zc1 (.int .i64 6) (.string ⟨x0.toArray⟩) (.int .i64 p1) (.int .i64 p2) (.int .i64 n) (.int .i64 0) (.string ⟨x3.toArray⟩)
 rw[hW]
 exact bodyPost_ret (v:=clV ⟨6,txt x0,(p1,p2),n,0,txt x3⟩) (by simp[results,Tryz.results50,go_sem,txt,q0,q1,q2,q3,q4,q5,q6]) rfl ⟨rfl,(below_via (below_via b0 hb2).drew hb3).trans (hB _ (Nat.le_refl _))⟩
theorem call6n (v:List UInt8) (ws:List (List UInt8)) (w:World) (b cap:Nat) (R:Rv w) (h:Wd w b 2 ws) (hm:ws.length=4) (f:Int) (hn:nmW (wd ws 2)=.error f)
  (h1:¬ (v=[110,101,116]/\4=2)) (h2:¬ (v=[97,100,100]/\4=3)) (h3:¬ (v=[116,97,107,101]/\4=2)) (h4:¬ (v=[112,108,97,99,101]/\4=3)) (h5:¬ (v=[108,101,97,118,101]/\4=2)) (h6:v=[110,101,120,116]/\4=4) :
  Calls Tryz.prog 50 #[.string ⟨v.toArray⟩,.slice (some ⟨b,2,none⟩) 4 cap] w fun e w'=>e=.panicked (thC f)/\Below w.heap.size w w':=by
 have b0:=below_al (below_self w) zCall
 have hW:=h.step b0
 have k0:=hW.two (j:=0) (by omega) 2 rfl
 have k1:=hW.two (j:=1) (by omega) 3 rfl
 have k2:=hW.two (j:=2) (by omega) 4 rfl
 have k3:=hW.two (j:=3) (by omega) 5 rfl
 obtain⟨rfl,KN⟩:=number_no (wd ws 2) f (h.len 2) hn
 clear hn
 have R0:=R.step b0
 have zc:=Zc.new w
 have gq:=eqGuard_row
 have E1:∀ W,(Op.equalIn 10000 150 (.agg #[.string ⟨v.toArray⟩,.int .i64 4]) (.agg #[.string ⟨#[110,101,116]⟩,.int .i64 2])).run Tryz.prog W=.ok false W:=fun W=>rowRun (v:=v) (t:=[110,101,116]) (m:=4) (k:=2) (b:=false) (decide_eq_false h1) W
 have E2:∀ W,(Op.equalIn 10000 150 (.agg #[.string ⟨v.toArray⟩,.int .i64 4]) (.agg #[.string ⟨#[97,100,100]⟩,.int .i64 3])).run Tryz.prog W=.ok false W:=fun W=>rowRun (v:=v) (t:=[97,100,100]) (m:=4) (k:=3) (b:=false) (decide_eq_false h2) W
 have E3:∀ W,(Op.equalIn 10000 150 (.agg #[.string ⟨v.toArray⟩,.int .i64 4]) (.agg #[.string ⟨#[116,97,107,101]⟩,.int .i64 2])).run Tryz.prog W=.ok false W:=fun W=>rowRun (v:=v) (t:=[116,97,107,101]) (m:=4) (k:=2) (b:=false) (decide_eq_false h3) W
 have E4:∀ W,(Op.equalIn 10000 150 (.agg #[.string ⟨v.toArray⟩,.int .i64 4]) (.agg #[.string ⟨#[112,108,97,99,101]⟩,.int .i64 3])).run Tryz.prog W=.ok false W:=fun W=>rowRun (v:=v) (t:=[112,108,97,99,101]) (m:=4) (k:=3) (b:=false) (decide_eq_false h4) W
 have E5:∀ W,(Op.equalIn 10000 150 (.agg #[.string ⟨v.toArray⟩,.int .i64 4]) (.agg #[.string ⟨#[108,101,97,118,101]⟩,.int .i64 2])).run Tryz.prog W=.ok false W:=fun W=>rowRun (v:=v) (t:=[108,101,97,118,101]) (m:=4) (k:=2) (b:=false) (decide_eq_false h5) W
 have E6:∀ W,(Op.equalIn 10000 150 (.agg #[.string ⟨v.toArray⟩,.int .i64 4]) (.agg #[.string ⟨#[110,101,120,116]⟩,.int .i64 4])).run Tryz.prog W=.ok true W:=fun W=>rowRun (v:=v) (t:=[110,101,120,116]) (m:=4) (k:=4) (b:=true) (decide_eq_true h6) W
 have n1:¬ b=w.heap.size:=by have:=h.lt;omega
 have n2:¬ w.heap.size=b:=by have:=h.lt;omega
 clear h1 h2 h3 h4 h5 h6 h hW hm R
 generalize (wd ws 0)=x0 at *
 generalize (wd ws 1)=x1 at *
 generalize (wd ws 2)=x2 at *
 generalize (wd ws 3)=x3 at *
 generalize hth:thC 0=th at *
 go_enter Tryz.func50,Tryz.ntmps50
 go_wp2_with (go_at_call 48;refine (KN _ R0).mono ?_;rintro e w2 ⟨rfl,hb2⟩)
 exact⟨rfl,rfl,below_via b0 hb2⟩
theorem call6e (v:List UInt8) (ws:List (List UInt8)) (w:World) (b cap:Nat) (R:Rv w) (h:Wd w b 2 ws) (hm:ws.length=4) (n:Int) (f:Int) (hn:nmW (wd ws 2)=.ok n) (hp:pfW (wd ws 1)=.error f)
  (h1:¬ (v=[110,101,116]/\4=2)) (h2:¬ (v=[97,100,100]/\4=3)) (h3:¬ (v=[116,97,107,101]/\4=2)) (h4:¬ (v=[112,108,97,99,101]/\4=3)) (h5:¬ (v=[108,101,97,118,101]/\4=2)) (h6:v=[110,101,120,116]/\4=4) :
  Calls Tryz.prog 50 #[.string ⟨v.toArray⟩,.slice (some ⟨b,2,none⟩) 4 cap] w fun e w'=>e=.panicked (thC f)/\Below w.heap.size w w':=by
 have b0:=below_al (below_self w) zCall
 have hW:=h.step b0
 have k0:=hW.two (j:=0) (by omega) 2 rfl
 have k1:=hW.two (j:=1) (by omega) 3 rfl
 have k2:=hW.two (j:=2) (by omega) 4 rfl
 have k3:=hW.two (j:=3) (by omega) 5 rfl
 have KN:=fun W RW=>number_ok (wd ws 2) n W RW (h.len 2) hn
 have KP:=fun W RW=>(prefix_no (wd ws 1) f W RW (h.len 1) hp).2
 clear hn hp
 have R0:=R.step b0
 have zc:=Zc.new w
 have gq:=eqGuard_row
 have E1:∀ W,(Op.equalIn 10000 150 (.agg #[.string ⟨v.toArray⟩,.int .i64 4]) (.agg #[.string ⟨#[110,101,116]⟩,.int .i64 2])).run Tryz.prog W=.ok false W:=fun W=>rowRun (v:=v) (t:=[110,101,116]) (m:=4) (k:=2) (b:=false) (decide_eq_false h1) W
 have E2:∀ W,(Op.equalIn 10000 150 (.agg #[.string ⟨v.toArray⟩,.int .i64 4]) (.agg #[.string ⟨#[97,100,100]⟩,.int .i64 3])).run Tryz.prog W=.ok false W:=fun W=>rowRun (v:=v) (t:=[97,100,100]) (m:=4) (k:=3) (b:=false) (decide_eq_false h2) W
 have E3:∀ W,(Op.equalIn 10000 150 (.agg #[.string ⟨v.toArray⟩,.int .i64 4]) (.agg #[.string ⟨#[116,97,107,101]⟩,.int .i64 2])).run Tryz.prog W=.ok false W:=fun W=>rowRun (v:=v) (t:=[116,97,107,101]) (m:=4) (k:=2) (b:=false) (decide_eq_false h3) W
 have E4:∀ W,(Op.equalIn 10000 150 (.agg #[.string ⟨v.toArray⟩,.int .i64 4]) (.agg #[.string ⟨#[112,108,97,99,101]⟩,.int .i64 3])).run Tryz.prog W=.ok false W:=fun W=>rowRun (v:=v) (t:=[112,108,97,99,101]) (m:=4) (k:=3) (b:=false) (decide_eq_false h4) W
 have E5:∀ W,(Op.equalIn 10000 150 (.agg #[.string ⟨v.toArray⟩,.int .i64 4]) (.agg #[.string ⟨#[108,101,97,118,101]⟩,.int .i64 2])).run Tryz.prog W=.ok false W:=fun W=>rowRun (v:=v) (t:=[108,101,97,118,101]) (m:=4) (k:=2) (b:=false) (decide_eq_false h5) W
 have E6:∀ W,(Op.equalIn 10000 150 (.agg #[.string ⟨v.toArray⟩,.int .i64 4]) (.agg #[.string ⟨#[110,101,120,116]⟩,.int .i64 4])).run Tryz.prog W=.ok true W:=fun W=>rowRun (v:=v) (t:=[110,101,120,116]) (m:=4) (k:=4) (b:=true) (decide_eq_true h6) W
 have n1:¬ b=w.heap.size:=by have:=h.lt;omega
 have n2:¬ w.heap.size=b:=by have:=h.lt;omega
 clear h1 h2 h3 h4 h5 h6 h hW hm R
 generalize (wd ws 0)=x0 at *
 generalize (wd ws 1)=x1 at *
 generalize (wd ws 2)=x2 at *
 generalize (wd ws 3)=x3 at *
 generalize hth:thC f=th at *
 go_enter Tryz.func50,Tryz.ntmps50
 go_wp2_with (go_at_call 48;refine (KN _ R0).mono ?_;rintro e w2 ⟨rfl,hb2⟩;have l0:=cell_lat hb2 k0;have l1:=cell_lat hb2 k1;have l2:=cell_lat hb2 k2;have l3:=cell_lat hb2 k3;have R2:=R0.step hb2)
 refine wp_region_held_drew (S:=(fun w2=>w2.cell? ⟨b,2,none⟩=some (.string ⟨x0.toArray⟩)/\w2.cell? ⟨b,3,none⟩=some (.string ⟨x1.toArray⟩)/\w2.cell? ⟨b,4,none⟩=some (.string ⟨x2.toArray⟩)/\w2.cell? ⟨b,5,none⟩=some (.string ⟨x3.toArray⟩))) (by kernel_rfl) (by exact⟨l0,l1,l2,l3⟩) (fun hHeld0=>?_)
 refine wpAnyH_take (i:=0) (oi:=⟨_,_,_,_,_,_⟩) (v:=?_) rfl (by kernel_rfl) (by kernel_rfl) (by kernel_rfl) (fun _ _ _ h=>h) (Or.inl ⟨by rfl,?_⟩) (by assumption) ?_
 rotate_left
 ·(intro w hSw;(try dsimp only at hSw);go_simp;try with_reducible rfl)
 try simp only [Act.put,List.setIfInBounds_toArray,List.set_cons_zero,List.set_cons_succ]
 refine wpAnyH_take (i:=1) (oi:=⟨_,_,_,_,_,_⟩) (v:=?_) rfl (by kernel_rfl) (by kernel_rfl) (by kernel_rfl) (fun _ _ _ h=>h) (Or.inl ⟨by rfl,?_⟩) (by assumption) ?_
 rotate_left
 ·(intro w hSw;(try dsimp only at hSw);go_simp;try with_reducible rfl)
 try simp only [Act.put,List.setIfInBounds_toArray,List.set_cons_zero,List.set_cons_succ]
 refine wpAnyH_take (i:=2) (oi:=⟨_,_,_,_,_,_⟩) (v:=?_) rfl (by kernel_rfl) (by kernel_rfl) (by kernel_rfl) (fun _ _ _ h=>h) (Or.inl ⟨by rfl,?_⟩) (by assumption) ?_
 rotate_left
 ·(intro w hSw;(try dsimp only at hSw);go_simp;try with_reducible rfl)
 try simp only [Act.put,List.setIfInBounds_toArray,List.set_cons_zero,List.set_cons_succ]
 refine wpAnyH_take (i:=3) (oi:=⟨_,_,_,_,_,_⟩) (v:=?_) rfl (by kernel_rfl) (by kernel_rfl) (by kernel_rfl) (fun _ _ _ h=>h) (Or.inl ⟨by rfl,?_⟩) (by assumption) ?_
 rotate_left
 ·(intro w hSw;(try dsimp only at hSw);go_simp;try with_reducible rfl)
 try simp only [Act.put,List.setIfInBounds_toArray,List.set_cons_zero,List.set_cons_succ]
 refine wpAnyH_take (i:=4) (oi:=⟨_,_,_,_,_,_⟩) (v:=?_) rfl (by kernel_rfl) (by kernel_rfl) (by kernel_rfl) (fun _ _ _ h=>h) (Or.inl ⟨by rfl,?_⟩) (by assumption) ?_
 rotate_left
 ·(intro w hSw;(try dsimp only at hSw);go_simp;try with_reducible rfl)
 try simp only [Act.put,List.setIfInBounds_toArray,List.set_cons_zero,List.set_cons_succ]
 refine wpAnyH_take (i:=5) (oi:=⟨_,_,_,_,_,_⟩) (v:=?_) rfl (by kernel_rfl) (by kernel_rfl) (by kernel_rfl) (fun _ _ _ h=>h) (Or.inl ⟨by rfl,?_⟩) (by assumption) ?_
 rotate_left
 ·(intro w hSw;(try dsimp only at hSw);go_simp;try with_reducible rfl)
 try simp only [Act.put,List.setIfInBounds_toArray,List.set_cons_zero,List.set_cons_succ]
 refine wpAnyH_take (i:=7) (oi:=⟨_,_,_,_,_,_⟩) (v:=?_) rfl (by kernel_rfl) (by kernel_rfl) (by kernel_rfl) (fun _ _ _ h=>h) (Or.inl ⟨by rfl,?_⟩) (by assumption) ?_
 rotate_left
 ·(intro w hSw;(try dsimp only at hSw);go_simp;try with_reducible rfl)
 try simp only [Act.put,List.setIfInBounds_toArray,List.set_cons_zero,List.set_cons_succ]
 refine wpAnyH_take (i:=8) (oi:=⟨_,_,_,_,_,_⟩) (v:=?_) rfl (by kernel_rfl) (by kernel_rfl) (by kernel_rfl) (fun _ _ _ h=>h) (Or.inl ⟨by rfl,?_⟩) (by assumption) ?_
 rotate_left
 ·(intro w hSw;(try dsimp only at hSw);go_simp;try with_reducible rfl)
 try simp only [Act.put,List.setIfInBounds_toArray,List.set_cons_zero,List.set_cons_succ]
 refine wpAnyH_take (i:=9) (oi:=⟨_,_,_,_,_,_⟩) (v:=?_) rfl (by kernel_rfl) (by kernel_rfl) (by kernel_rfl) (fun _ _ _ h=>h) (Or.inl ⟨by rfl,?_⟩) (by assumption) ?_
 rotate_left
 ·(intro w hSw;(try dsimp only at hSw);go_simp;try with_reducible rfl)
 try simp only [Act.put,List.setIfInBounds_toArray,List.set_cons_zero,List.set_cons_succ]
 refine wpAnyH_take (i:=10) (oi:=⟨_,_,_,_,_,_⟩) (v:=?_) rfl (by kernel_rfl) (by kernel_rfl) (by kernel_rfl) (fun _ _ _ h=>h) (Or.inl ⟨by rfl,?_⟩) (by assumption) ?_
 rotate_left
 ·(intro w hSw;(try dsimp only at hSw);go_simp;try with_reducible rfl)
 try simp only [Act.put,List.setIfInBounds_toArray,List.set_cons_zero,List.set_cons_succ]
 refine wpAnyH_ready (rs:=[6]) (by kernel_rfl) (by simp) ?_
 refine AllReadyH.cons (o:=⟨_,_,_,_,_,_⟩) rfl (fun K hK=>?_) AllReadyH.nil
 go_simp
 go_at_call 80
 refine (KP _ (by first|exact R2|exact R2.step (below_self _).drew)).mono ?_
 rintro e w1 ⟨rfl,hb1⟩
 exact⟨rfl,rfl,below_via (below_via b0 hb2).drew hb1⟩
end Go.Proofs.YtcjdoeclblhaeaaGreatDoor.Rn
namespace Go.Proofs.YtcjdoeclblhaeaaGreatDoor.Rn
open Go.RowKit Pa Vs
theorem call0 (v:List UInt8) (ws:List (List UInt8)) (w:World) (b cap:Nat)
  (h1:¬ (v=[110,101,116]/\ws.length=2)) (h2:¬ (v=[97,100,100]/\ws.length=3)) (h3:¬ (v=[116,97,107,101]/\ws.length=2)) (h4:¬ (v=[112,108,97,99,101]/\ws.length=3)) (h5:¬ (v=[108,101,97,118,101]/\ws.length=2)) (h6:¬ (v=[110,101,120,116]/\ws.length=4)) (h7:¬ (v=[104,111,115,116]/\ws.length=3)) (h8:¬ (v=[108,105,115,116]/\ws.length=1)) (h9:¬ (v=[119,104,111]/\ws.length=2)) :
  Calls Tryz.prog 50 #[.string ⟨v.toArray⟩,.slice (some ⟨b,2,none⟩) ws.length cap] w fun e w'=>e=.panicked (thC 0)/\Below w.heap.size w w':=by
 have gq:=eqGuard_row
 have E1:∀ W,(Op.equalIn 10000 150 (.agg #[.string ⟨v.toArray⟩,.int .i64 (ws.length:Int)]) (.agg #[.string ⟨#[110,101,116]⟩,.int .i64 2])).run Tryz.prog W=.ok false W:=fun W=>rowRun (v:=v) (t:=[110,101,116]) (m:=ws.length) (k:=2) (b:=false) (decide_eq_false h1) W
 have E2:∀ W,(Op.equalIn 10000 150 (.agg #[.string ⟨v.toArray⟩,.int .i64 (ws.length:Int)]) (.agg #[.string ⟨#[97,100,100]⟩,.int .i64 3])).run Tryz.prog W=.ok false W:=fun W=>rowRun (v:=v) (t:=[97,100,100]) (m:=ws.length) (k:=3) (b:=false) (decide_eq_false h2) W
 have E3:∀ W,(Op.equalIn 10000 150 (.agg #[.string ⟨v.toArray⟩,.int .i64 (ws.length:Int)]) (.agg #[.string ⟨#[116,97,107,101]⟩,.int .i64 2])).run Tryz.prog W=.ok false W:=fun W=>rowRun (v:=v) (t:=[116,97,107,101]) (m:=ws.length) (k:=2) (b:=false) (decide_eq_false h3) W
 have E4:∀ W,(Op.equalIn 10000 150 (.agg #[.string ⟨v.toArray⟩,.int .i64 (ws.length:Int)]) (.agg #[.string ⟨#[112,108,97,99,101]⟩,.int .i64 3])).run Tryz.prog W=.ok false W:=fun W=>rowRun (v:=v) (t:=[112,108,97,99,101]) (m:=ws.length) (k:=3) (b:=false) (decide_eq_false h4) W
 have E5:∀ W,(Op.equalIn 10000 150 (.agg #[.string ⟨v.toArray⟩,.int .i64 (ws.length:Int)]) (.agg #[.string ⟨#[108,101,97,118,101]⟩,.int .i64 2])).run Tryz.prog W=.ok false W:=fun W=>rowRun (v:=v) (t:=[108,101,97,118,101]) (m:=ws.length) (k:=2) (b:=false) (decide_eq_false h5) W
 have E6:∀ W,(Op.equalIn 10000 150 (.agg #[.string ⟨v.toArray⟩,.int .i64 (ws.length:Int)]) (.agg #[.string ⟨#[110,101,120,116]⟩,.int .i64 4])).run Tryz.prog W=.ok false W:=fun W=>rowRun (v:=v) (t:=[110,101,120,116]) (m:=ws.length) (k:=4) (b:=false) (decide_eq_false h6) W
 have E7:∀ W,(Op.equalIn 10000 150 (.agg #[.string ⟨v.toArray⟩,.int .i64 (ws.length:Int)]) (.agg #[.string ⟨#[104,111,115,116]⟩,.int .i64 3])).run Tryz.prog W=.ok false W:=fun W=>rowRun (v:=v) (t:=[104,111,115,116]) (m:=ws.length) (k:=3) (b:=false) (decide_eq_false h7) W
 have E8:∀ W,(Op.equalIn 10000 150 (.agg #[.string ⟨v.toArray⟩,.int .i64 (ws.length:Int)]) (.agg #[.string ⟨#[108,105,115,116]⟩,.int .i64 1])).run Tryz.prog W=.ok false W:=fun W=>rowRun (v:=v) (t:=[108,105,115,116]) (m:=ws.length) (k:=1) (b:=false) (decide_eq_false h8) W
 have E9:∀ W,(Op.equalIn 10000 150 (.agg #[.string ⟨v.toArray⟩,.int .i64 (ws.length:Int)]) (.agg #[.string ⟨#[119,104,111]⟩,.int .i64 2])).run Tryz.prog W=.ok false W:=fun W=>rowRun (v:=v) (t:=[119,104,111]) (m:=ws.length) (k:=2) (b:=false) (decide_eq_false h9) W
 clear h1 h2 h3 h4 h5 h6 h7 h8 h9
 unfold thC
 rw[thr_0]
 generalize ws.length=m at *
 go_enter Tryz.func50,Tryz.ntmps50
 go_wp2
 exact⟨rfl,rfl,below_al (below_self w) _⟩
end Go.Proofs.YtcjdoeclblhaeaaGreatDoor.Rn
namespace Go.Proofs.YtcjdoeclblhaeaaGreatDoor.Rn
open Go.RowKit Pa Vs
theorem call_ (v:List UInt8) (ws:List (List UInt8)) (w:World) (b cap:Nat) (R:Rv w) (h:Wd w b 2 ws) :
  Calls Tryz.prog 50 #[.string ⟨v.toArray⟩,.slice (some ⟨b,2,none⟩) ws.length cap] w fun e w'=>e=enR ((clW v ws).map clV)/\Below w.heap.size w w':=by
 by_cases h1:v=[110,101,116]/\ws.length=2
 ·have hk:kd v ws.length=1:=by
   unfold kd
   rw[if_pos h1]
  have hm:=h1.2
  unfold clW
  rw[hk,hm]
  rw[hm] at h1
  clear hk
  exact call1 v ws w b cap h hm h1
 by_cases h2:v=[97,100,100]/\ws.length=3
 ·have hk:kd v ws.length=2:=by
   unfold kd
   rw[if_neg h1,if_pos h2]
  have hm:=h2.2
  unfold clW
  rw[hk,hm]
  rw[hm] at h1 h2
  clear hk
  show Calls _ _ _ _ fun e w'=>e=enR (((pfW (wd ws 1)).map _).map clV)/\_
  cases e:pfW (wd ws 1) with
  | ok p=>exact call2 v ws w b cap R h hm p e h1 h2
  | error f=>exact call2e v ws w b cap R h hm f e h1 h2
 by_cases h3:v=[116,97,107,101]/\ws.length=2
 ·have hk:kd v ws.length=3:=by
   unfold kd
   rw[if_neg h1,if_neg h2,if_pos h3]
  have hm:=h3.2
  unfold clW
  rw[hk,hm]
  rw[hm] at h1 h2 h3
  clear hk
  show Calls _ _ _ _ fun e w'=>e=enR (((pfW (wd ws 1)).map _).map clV)/\_
  cases e:pfW (wd ws 1) with
  | ok p=>exact call3 v ws w b cap R h hm p e h1 h2 h3
  | error f=>exact call3e v ws w b cap R h hm f e h1 h2 h3
 by_cases h4:v=[112,108,97,99,101]/\ws.length=3
 ·have hk:kd v ws.length=4:=by
   unfold kd
   rw[if_neg h1,if_neg h2,if_neg h3,if_pos h4]
  have hm:=h4.2
  unfold clW
  rw[hk,hm]
  rw[hm] at h1 h2 h3 h4
  clear hk
  show Calls _ _ _ _ fun e w'=>e=enR (((adW (wd ws 1)).map _).map clV)/\_
  cases e:adW (wd ws 1) with
  | ok p=>exact call4 v ws w b cap R h hm p e h1 h2 h3 h4
  | error f=>exact call4e v ws w b cap R h hm f e h1 h2 h3 h4
 by_cases h5:v=[108,101,97,118,101]/\ws.length=2
 ·have hk:kd v ws.length=5:=by
   unfold kd
   rw[if_neg h1,if_neg h2,if_neg h3,if_neg h4,if_pos h5]
  have hm:=h5.2
  unfold clW
  rw[hk,hm]
  rw[hm] at h1 h2 h3 h4 h5
  clear hk
  show Calls _ _ _ _ fun e w'=>e=enR (((adW (wd ws 1)).map _).map clV)/\_
  cases e:adW (wd ws 1) with
  | ok p=>exact call5 v ws w b cap R h hm p e h1 h2 h3 h4 h5
  | error f=>exact call5e v ws w b cap R h hm f e h1 h2 h3 h4 h5
 by_cases h6:v=[110,101,120,116]/\ws.length=4
 ·have hk:kd v ws.length=6:=by
   unfold kd
   rw[if_neg h1,if_neg h2,if_neg h3,if_neg h4,if_neg h5,if_pos h6]
  have hm:=h6.2
  unfold clW
  rw[hk,hm]
  rw[hm] at h1 h2 h3 h4 h5 h6
  clear hk
  show Calls _ _ _ _ fun e w'=>e=enR (((nmW (wd ws 2)).bind fun n=>(pfW (wd ws 1)).map _).map clV)/\_
  cases e2:nmW (wd ws 2) with
  | error f=>
   have hf:=(number_no (wd ws 2) f (h.len 2) e2).1
   subst hf
   exact call6n v ws w b cap R h hm 0 e2 h1 h2 h3 h4 h5 h6
  | ok n=>
   cases e:pfW (wd ws 1) with
   | ok p=>exact call6 v ws w b cap R h hm n p e2 e h1 h2 h3 h4 h5 h6
   | error f=>exact call6e v ws w b cap R h hm n f e2 e h1 h2 h3 h4 h5 h6
 by_cases h7:v=[104,111,115,116]/\ws.length=3
 ·have hk:kd v ws.length=7:=by
   unfold kd
   rw[if_neg h1,if_neg h2,if_neg h3,if_neg h4,if_neg h5,if_neg h6,if_pos h7]
  have hm:=h7.2
  unfold clW
  rw[hk,hm]
  rw[hm] at h1 h2 h3 h4 h5 h6 h7
  clear hk
  show Calls _ _ _ _ fun e w'=>e=enR (((pfW (wd ws 1)).map _).map clV)/\_
  cases e:pfW (wd ws 1) with
  | ok p=>exact call7 v ws w b cap R h hm p e h1 h2 h3 h4 h5 h6 h7
  | error f=>exact call7e v ws w b cap R h hm f e h1 h2 h3 h4 h5 h6 h7
 by_cases h8:v=[108,105,115,116]/\ws.length=1
 ·have hk:kd v ws.length=8:=by
   unfold kd
   rw[if_neg h1,if_neg h2,if_neg h3,if_neg h4,if_neg h5,if_neg h6,if_neg h7,if_pos h8]
  have hm:=h8.2
  unfold clW
  rw[hk,hm]
  rw[hm] at h1 h2 h3 h4 h5 h6 h7 h8
  clear hk
  exact call8 v ws w b cap h hm h1 h2 h3 h4 h5 h6 h7 h8
 by_cases h9:v=[119,104,111]/\ws.length=2
 ·have hk:kd v ws.length=9:=by
   unfold kd
   rw[if_neg h1,if_neg h2,if_neg h3,if_neg h4,if_neg h5,if_neg h6,if_neg h7,if_neg h8,if_pos h9]
  have hm:=h9.2
  unfold clW
  rw[hk,hm]
  rw[hm] at h1 h2 h3 h4 h5 h6 h7 h8 h9
  clear hk
  show Calls _ _ _ _ fun e w'=>e=enR (((adW (wd ws 1)).map _).map clV)/\_
  cases e:adW (wd ws 1) with
  | ok p=>exact call9 v ws w b cap R h hm p e h1 h2 h3 h4 h5 h6 h7 h8 h9
  | error f=>exact call9e v ws w b cap R h hm f e h1 h2 h3 h4 h5 h6 h7 h8 h9
 have hk:kd v ws.length=0:=by
  unfold kd
  rw[if_neg h1,if_neg h2,if_neg h3,if_neg h4,if_neg h5,if_neg h6,if_neg h7,if_neg h8,if_neg h9]
 unfold clW
 rw[hk]
 exact call0 v ws w b cap h1 h2 h3 h4 h5 h6 h7 h8 h9
theorem call_ok {v:List UInt8} {ws:List (List UInt8)} {c:Cl} (hc:clW v ws=.ok c) (w:World) (b cap:Nat) (R:Rv w) (h:Wd w b 2 ws) :
  Calls Tryz.prog 50 #[.string ⟨v.toArray⟩,.slice (some ⟨b,2,none⟩) ws.length cap] w fun e w'=>e=.returned (clV c)/\Below w.heap.size w w':=by
 have:=call_ v ws w b cap R h
 rw[hc] at this
 exact this
theorem call_no {v:List UInt8} {ws:List (List UInt8)} {f:Int} (hc:clW v ws=.error f) (w:World) (b cap:Nat) (R:Rv w) (h:Wd w b 2 ws) :
  Calls Tryz.prog 50 #[.string ⟨v.toArray⟩,.slice (some ⟨b,2,none⟩) ws.length cap] w fun e w'=>e=.panicked (thC f)/\Below w.heap.size w w':=by
 have:=call_ v ws w b cap R h
 rw[hc] at this
 exact this
end Go.Proofs.YtcjdoeclblhaeaaGreatDoor.Rn
